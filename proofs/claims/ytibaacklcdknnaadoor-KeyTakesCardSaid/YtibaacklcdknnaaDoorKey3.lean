/- key.text. Condition: the text is no longer than a machine has addresses. -/
import Derived.Test.YtibaacklcdknnaaDoorProg
import Derived.Test.YtibaacklcdknnaaDoorKey2
namespace Go.Proofs.YtibaacklcdknnaaDoor
open Go.RowKit
set_option linter.unusedVariables false
def hp2 (a b : Nat) : List Nat → Bool
  | x :: y :: _ => decide (x = a) && decide (y = b)
  | _ => false
theorem hp2_has (s : ByteArray) (a b : Nat) (ha : a < 256) (hb : b < 256) : Lib.hasPrefix s.data.toList [UInt8.ofNat a, UInt8.ofNat b] = hp2 a b (bts s) := by
  unfold bts Lib.hasPrefix
  have e : ∀ (x : UInt8) (n : Nat), n < 256 → (UInt8.ofNat n == x) = decide (x.toNat = n) := fun x n hn => by
    by_cases h : x.toNat = n
    · subst h; simp
    · rw [decide_eq_false h, beq_eq_false_iff_ne]
      intro e
      apply h
      rw [← e, UInt8.toNat_ofNat']
      omega
  match s.data.toList with
  | [] => rfl
  | [x] => simp [List.isPrefixOf, hp2]
  | x :: y :: l => simp [List.isPrefixOf, hp2, e x a ha, e y b hb]
def shiftF (acc : List Nat) (p : Nat) (o : Option (List Nat × Nat)) : Option (List Nat × Nat) := o.map fun x => (acc ++ x.1, p + x.2)
theorem tx_end {L : List Nat} (h : hp2 0 0 L = true) : textF L = some ([], 2) := by
  match L, h with
  | a :: b :: r, h =>
    simp [hp2] at h
    obtain ⟨rfl, rfl⟩ := h
    simp [textF]
theorem tx_esc {L : List Nat} (h : hp2 0 255 L = true) : textF L = shiftF [0] 2 (textF (L.drop 2)) := by
  match L, h with
  | a :: b :: r, h =>
    simp [hp2] at h
    obtain ⟨rfl, rfl⟩ := h
    simp only [textF, shiftF, ↓reduceIte, List.drop_succ_cons, List.drop_zero]
    rw [if_neg (by omega)]
    cases textF r with
    | none => rfl
    | some p => simp [Nat.add_comm]
theorem tx_none {r : List Nat} (h1 : hp2 0 0 (0 :: r) = false) (h2 : hp2 0 255 (0 :: r) = false) : textF (0 :: r) = none := by
  match r, h1, h2 with
  | [], _, _ => rfl
  | b :: r, h1, h2 =>
    simp [hp2] at h1 h2
    simp [textF, h1, h2]
theorem tx_char {c : Nat} {r : List Nat} (h : c ≠ 0) : textF (c :: r) = shiftF [c] 1 (textF r) := by
  match r with
  | [] => rfl
  | b :: r =>
    simp only [textF, if_neg h, shiftF]
    cases textF (b :: r) with
    | none => rfl
    | some p => simp [Nat.add_comm]
theorem shift_shift (a b : List Nat) (p q : Nat) (o : Option (List Nat × Nat)) : shiftF a p (shiftF b q o) = shiftF (a ++ b) (p + q) o := by
  cases o with
  | none => rfl
  | some x => simp [shiftF, Nat.add_assoc]
theorem shift_zero (o : Option (List Nat × Nat)) : shiftF [] 0 o = o := by
  cases o with
  | none => rfl
  | some x => simp [shiftF]
def txtR (o : Option (List Nat × Nat)) : ByteArray × Int × Bool := match o with | some (t, k) => (bstr t, (k : Int), true) | none => (⟨#[]⟩, 0, false)
set_option maxRecDepth 100000 in
set_option maxHeartbeats 4000000 in
theorem text_any (s : ByteArray) (w : World) (hs : s.size ≤ 140737488351232) :
    Calls Tryd.prog 24 #[.string s] w fun e w' => e = .returned (.tuple #[.string (txtR (textF (bts s))).1, .int .i64 (txtR (textF (bts s))).2.1, .bool (txtR (textF (bts s))).2.2]) ∧ Below w.heap.size w w' := by
  have hsI : (s.size : Int) ≤ 140737488351232 := by omega
  have hb0 := ob_new (w := w) (Below.refl _ _)
  have HB0 := Lib.hid hb0
  have e9 : ((⟨#[0]⟩ : ByteArray)[0]'(by decide)).toNat = 0 := rfl
  clear hb0
  go_enter Tryd.func24, Tryd.ntmps24
  go_wp2
  generalize hgb : w.heap.size = gb at *
  go_loopw [6] (fun i wr => ∃ (p : Nat) (acc : List Nat), p ≤ s.size ∧ i = .int .i64 p ∧ acc.length ≤ p ∧ textF (bts s) = shiftF acc p (textF ((bts s).drop p)) ∧ Ob w gb acc wr) (fun i _ => s.size - (intOf i).toNat)
  case atStart => exact ⟨0, [], by omega, rfl, by simp, by rw [List.drop_zero, shift_zero], HB0.out⟩
  case round =>
    clear HB0
    obtain ⟨p, acc, hp, rfl, hacc, heq, ho⟩ := hrel
    by_cases hlt : p < s.size
    · have hlen := bts_length s
      have hd : (bts s).drop p = (bts s).getD p 0 :: (bts s).drop (p + 1) := by
        rw [List.drop_eq_getElem_cons (by omega), List.getD_eq_getElem?_getD, List.getElem?_eq_getElem (by omega)]; rfl
      have hby := byte_at s p hlt
      have hc256 := bts_getD_lt s p
      have hh1 := fun W => Tryd.strings_HasPrefix (s.extract p s.size) ⟨#[0, 0]⟩ W
      have hh2 := fun W => Tryd.strings_HasPrefix (s.extract p s.size) ⟨#[0, 255]⟩ W
      have e1 : Lib.hasPrefix (s.extract p s.size).data.toList (⟨#[0, 0]⟩ : ByteArray).data.toList = hp2 0 0 ((bts s).drop p) := by
        rw [← bts_cutr]; exact hp2_has _ 0 0 (by omega) (by omega)
      have e2 : Lib.hasPrefix (s.extract p s.size).data.toList (⟨#[0, 255]⟩ : ByteArray).data.toList = hp2 0 255 ((bts s).drop p) := by
        rw [← bts_cutr]; exact hp2_has _ 0 255 (by omega) (by omega)
      rw [e1] at hh1
      rw [e2] at hh2
      generalize (bts s).getD p 0 = c at *
      have hltI : (p : Int) < s.size := by omega
      have HO := Lib.hid ho
      have HEQ := Lib.hid heq
      have HD := Lib.hid hd
      have hwb := ob_wb (c : Int) ho (by omega) (by omega) (by omega)
      have HWB := Lib.hid hwb
      clear ho heq hd e1 e2 hwb hlen
      by_cases h00 : hp2 0 0 ((bts s).drop p) = true
      · rw [h00] at hh1
        have HT := Lib.hid (show textF (bts s) = some (acc, p + 2) by rw [HEQ.out, tx_end h00]; simp [shiftF])
        have hst := ob_str HO.out
        have HST := Lib.hid hst
        have HH1 := Lib.hid hh1
        clear hst hh1 hh2 h00
        go_wp2_with fail
        refine (HH1.out _).mono ?_
        rintro e w2 ⟨rfl, hw2⟩
        subst hw2
        go_wp2_with fail
        refine (HST.out).mono ?_
        rintro e w3 ⟨rfl, hb3⟩
        go_wp2
        go_ret3
        exact ⟨by rw [HT.out]; rfl, hb3⟩
      · rw [show hp2 0 0 ((bts s).drop p) = false by simpa using h00] at hh1
        have h00' : hp2 0 0 ((bts s).drop p) = false := by simpa using h00
        have HH1 := Lib.hid hh1
        by_cases hc : c = 0
        · subst hc
          by_cases h255 : hp2 0 255 ((bts s).drop p) = true
          · rw [h255] at hh2
            have HH2 := Lib.hid hh2
            have hp2' : p + 2 ≤ s.size := by
              have h2 : 2 ≤ ((bts s).drop p).length := by
                cases hq : (bts s).drop p with
                | nil => rw [hq] at h255; simp [hp2] at h255
                | cons x l =>
                  cases l with
                  | nil => rw [hq] at h255; simp [hp2] at h255
                  | cons y l => simp
              rw [List.length_drop, bts_length] at h2
              omega
            have HT := Lib.hid (show textF (bts s) = shiftF (acc ++ [0]) (p + 2) (textF ((bts s).drop (p + 2))) by rw [HEQ.out, tx_esc h255, shift_shift, List.drop_drop])
            have HP2 := Lib.hid hp2'
            clear hh1 hh2 h00 h00' h255 hp2'
            go_wp2_with fail
            refine (HH1.out _).mono ?_
            rintro e w2 ⟨rfl, hw2⟩
            subst hw2
            go_wp2_with fail
            refine (HH2.out _).mono ?_
            rintro e w2 ⟨rfl, hw2⟩
            subst hw2
            go_wp2_with fail
            refine (HWB.out).mono ?_
            rintro e w3 ⟨rfl, ho3, _⟩
            have HO3 := Lib.hid ho3
            clear ho3
            go_wp2
            go_roundw
            case rel => exact ⟨p + 2, acc ++ [0], HP2.out, by go_num, by simp; omega, HT.out, HO3.out⟩
            case measure => have := HP2.out; simp [intOf]; omega
          · rw [show hp2 0 255 ((bts s).drop p) = false by simpa using h255] at hh2
            have h255' : hp2 0 255 ((bts s).drop p) = false := by simpa using h255
            have HH2 := Lib.hid hh2
            have HT := Lib.hid (show textF (bts s) = none by
              rw [HEQ.out]
              rw [HD.out] at h00' h255' ⊢
              rw [tx_none h00' h255']; rfl)
            have HB := Lib.hid HO.out.2
            clear hh1 hh2 h00 h00' h255 h255'
            go_wp2_with fail
            refine (HH1.out _).mono ?_
            rintro e w2 ⟨rfl, hw2⟩
            subst hw2
            go_wp2_with fail
            refine (HH2.out _).mono ?_
            rintro e w2 ⟨rfl, hw2⟩
            subst hw2
            go_wp2
            go_ret3
            exact ⟨by rw [HT.out]; rfl, HB.out⟩
        · have HT := Lib.hid (show textF (bts s) = shiftF (acc ++ [c]) (p + 1) (textF ((bts s).drop (p + 1))) by rw [HEQ.out, HD.out, tx_char hc, shift_shift])
          have e0 : ((c : Int) == 0) = false := by rw [beq_eq_false_iff_ne]; omega
          clear hh1 hh2 h00 h00' hc
          go_wp2_with fail
          refine (HH1.out _).mono ?_
          rintro e w2 ⟨rfl, hw2⟩
          subst hw2
          go_wp2_with fail
          refine (HWB.out).mono ?_
          rintro e w3 ⟨rfl, ho3, _⟩
          have HO3 := Lib.hid (show Ob w gb (acc ++ [c]) w3 by simpa using ho3)
          clear ho3
          go_wp2
          go_roundw
          case rel => exact ⟨p + 1, acc ++ [c], by omega, by go_num, by simp; omega, HT.out, HO3.out⟩
          case measure => simp [intOf]; omega
    · obtain rfl : p = s.size := by omega
      have HT := Lib.hid (show textF (bts s) = none by rw [heq, List.drop_of_length_le (by rw [bts_length]; exact Nat.le_refl _)]; rfl)
      have HB := Lib.hid ho.2
      clear heq ho
      go_wp2
      go_ret3
      exact ⟨by rw [HT.out]; rfl, HB.out⟩
end Go.Proofs.YtibaacklcdknnaaDoor
