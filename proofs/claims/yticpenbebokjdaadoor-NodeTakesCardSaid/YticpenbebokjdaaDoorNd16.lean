/- ref10.rise, in, number. Conditions: those of each lemma. -/
import Derived.Test.YticpenbebokjdaaDoorNd4
import Derived.Test.YticpenbebokjdaaDoorNd5
import Derived.Test.YticpenbebokjdaaDoorRefFixed
namespace Go.Proofs.YticpenbebokjdaaDoor
open Go.RowKit Go
set_option linter.unusedVariables false
set_option linter.unusedSimpArgs false
set_option maxRecDepth 100000 in
set_option maxHeartbeats 4000000 in
theorem in_any (n least : Int) (w : World) : Calls Tryd.prog 35 #[.int .i64 n, .int .i64 least] w fun e w' => e = .returned (.bool (pageB n least)) ∧ w = w' := by
  unfold pageB
  by_cases h : least ≤ n
  · have h1 : decide (least ≤ n) = true := decide_eq_true h
    rw [h1]
    go_enter Tryd.func35, Tryd.ntmps35
    go_wp2
    go_ret
    exact ⟨by simp, rfl⟩
  · have h1 : decide (least ≤ n) = false := decide_eq_false h
    rw [h1]
    go_enter Tryd.func35, Tryd.ntmps35
    go_wp2
    go_ret
    exact ⟨by simp, rfl⟩
theorem fixL_num (n : Nat) : ∀ k, fixL k n = numL n k
  | 0 => rfl
  | k + 1 => by rw [fixL, numL, fixL_num n k]
set_option maxRecDepth 100000 in
set_option maxHeartbeats 4000000 in
theorem rnum_any (n many : Nat) (w : World) (hn : n ≤ 4294967295) (h1 : 1 ≤ many) (h8 : many ≤ 8) : Calls Tryd.prog 36 #[.int .i64 n, .int .i64 many] w fun e w' => e = .returned (.string (bstr (numL n many))) ∧ Below w.heap.size w w' := by
  have HF := Lib.hid (fun W => refFixed_any n many W (by omega) h1 h8)
  have hw : IntKind.u64.wrap (n : Int) = (n : Int) := by rw [IntKind.wrap_u64]; omega
  go_enter Tryd.func36, Tryd.ntmps36
  go_wp2_with fail
  refine (HF.out _).mono ?_
  rintro e w2 ⟨rfl, hb2⟩
  go_wp2
  go_ret
  exact ⟨congrArg (fun x => Ending.returned (.string (bstr x))) (fixL_num n many), hb2⟩
/-- whether the keys rise, from one on -/
def riseP : Option ByteArray → List Cl → Bool
  | _, [] => true
  | p, c :: l => (match p with
    | none => true
    | some k => lessS k c.key) && riseP (some c.key) l
theorem riseP_some (k : ByteArray) (c : Cl) (l : List Cl) : riseP (some k) (c :: l) = (lessS k c.key && riseP (some c.key) l) := rfl
theorem okL_rise (f : Cl → Bool) : ∀ (l : List Cl) (p : Option ByteArray), okL f p l = (l.all (fun c => decide ((c.key.size : Int) ≤ 100) && f c) && riseP p l)
  | [], p => rfl
  | c :: l, p => by
    rw [okL_step, okL_rise f l, List.all_cons]
    cases p with
    | none =>
      show _ = (_ && (true && riseP (some c.key) l))
      simp [Bool.and_assoc]
    | some k =>
      show (decide ((c.key.size : Int) ≤ 100) && f c && lessS k c.key && (l.all (fun c => decide ((c.key.size : Int) ≤ 100) && f c) && riseP (some c.key) l)) = (decide ((c.key.size : Int) ≤ 100) && f c && l.all (fun c => decide ((c.key.size : Int) ≤ 100) && f c) && (lessS k c.key && riseP (some c.key) l))
      generalize lessS k c.key = a
      generalize (l.all (fun c => decide ((c.key.size : Int) ≤ 100) && f c)) = b
      cases a <;> cases b <;> simp
set_option maxRecDepth 100000 in
set_option maxHeartbeats 8000000 in
theorem rise_any (A : Option Addr) (l : List Cl) (n c : Nat) (w : World) (hC : Cls w w.heap.size A l) (hn : n = l.length) (hm : n ≤ 1000000) :
    Calls Tryd.prog 34 #[.slice A n c] w fun e w' => e = .returned (.bool (riseP none l)) ∧ Below w.heap.size w w' := by
  by_cases h0 : n = 0
  · subst h0
    have hl : l = [] := List.length_eq_zero_iff.1 hn.symm
    rw [hl]
    clear hn hl hC hm
    go_enter Tryd.func34, Tryd.ntmps34
    go_wp2
    go_loopw [3] (fun i wr => i = .int .i64 1 ∧ Below w.heap.size w wr) (fun i _ => 0)
    case atStart => exact ⟨rfl, Below.refl _ _⟩
    case round =>
      obtain ⟨rfl, hb⟩ := hrel
      have hd : decide ((1 : Int) < 0) = false := by decide
      go_wp2
      go_ret
      exact ⟨rfl, hb⟩
  obtain ⟨b, o, rfl, hbl, hcs⟩ := cls_get hC (fun e => by rw [e] at hn; simp at hn; omega)
  have HN := Lib.hid hn
  have hmI : (n : Int) ≤ 1000000 := by omega
  have HC := Lib.hid (And.intro hbl hcs)
  have hpos : 0 < l.length := by omega
  have HS : Hid (riseP none l = riseP (some l[0].key) (l.drop 1)) := Lib.hid (by
    cases l with
    | nil => simp at hpos
    | cons x l => rfl)
  clear hn hm hC hbl hcs
  go_enter Tryd.func34, Tryd.ntmps34
  go_wp2
  go_loopw [3] (fun i wr => ∃ j : Nat, ∃ hj : j < l.length, i = .int .i64 ((j : Int) + 1) ∧ riseP none l = riseP (some l[j].key) (l.drop (j + 1)) ∧ Below w.heap.size w wr) (fun i _ => n - (intOf i).toNat)
  case atStart => exact ⟨0, hpos, rfl, HS.out, Below.refl _ _⟩
  case round =>
    obtain ⟨j, hj, rfl, hr, hb⟩ := hrel
    by_cases hjn : j + 1 < n
    · have hj2 : j + 1 < l.length := by have := HN.out; omega
      have a0 := (cells4_below (HC.out.2 j l[j] (List.getElem?_eq_getElem hj)) hb HC.out.1).1
      have b0 := (cells4_below (HC.out.2 (j + 1) l[j + 1] (List.getElem?_eq_getElem hj2)) hb HC.out.1).1
      rw [List.drop_eq_getElem_cons hj2, riseP_some] at hr
      obtain ⟨k, hk⟩ : ∃ k, l[j].key = k := ⟨_, rfl⟩
      obtain ⟨k2, hk2⟩ : ∃ k2, l[j + 1].key = k2 := ⟨_, rfl⟩
      rw [hk] at a0
      rw [hk2] at b0
      rw [hk] at hr
      have HR := Lib.hid hr
      have HK2 := Lib.hid hk2
      have HJ2 := Lib.hid hj2
      have HB := Lib.hid hb
      have hjI : (j : Int) + 1 < n := by omega
      have hjj : ((j : Int) + 1).toNat = j + 1 := by omega
      clear hr hk hk2 hb
      by_cases hless : lessS k k2 = true
      · have hl2 : Op.bytesLess k.toList k2.toList = true := hless
        go_wp2
        go_region
        go_wp2
        go_roundw
        case rel => exact ⟨j + 1, HJ2.out, by go_num, by rw [HR.out, HK2.out, hless]; rfl, HB.out.drew⟩
        case measure => simp [intOf]; omega
      · have hl2 : Op.bytesLess k.toList k2.toList = false := by simpa [lessS] using hless
        go_wp2
        go_region
        go_wp2
        go_ret
        exact ⟨congrArg (fun x => Ending.returned (.bool x)) (show false = _ by rw [HR.out, HK2.out, show lessS k k2 = false from hl2]; rfl), HB.out.drew⟩
    · have hjn' : j + 1 = n := by have := HN.out; omega
      have HR : Hid (riseP none l = true) := Lib.hid (by rw [hr, List.drop_of_length_le (by have := HN.out; omega)]; rfl)
      have hjI : ((j : Int) + 1) = n := by omega
      have hlt : decide ((n : Int) < n) = false := by simp
      rw [hjI]
      clear hr hj hjn' hjI
      go_wp2
      go_ret
      exact ⟨congrArg (fun x => Ending.returned (.bool x)) HR.out.symm, hb⟩
end Go.Proofs.YticpenbebokjdaaDoor
