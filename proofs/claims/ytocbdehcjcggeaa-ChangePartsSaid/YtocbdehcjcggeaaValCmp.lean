/- The order of values and rows: the program's. Conditions: those of each lemma. -/
import Derived.Test.YtocbdehcjcggeaaValOrd
import Derived.Test.YtocbdehcjcggeaaShelf
namespace Go.Proofs.Ytocbdehcjcggeaa
open Go.RowKit
set_option linter.unusedVariables false
set_option maxRecDepth 100000 in
theorem nan_u8 (a : Int) (w : World) : Calls Try.prog 113 #[.int .u8 a] w fun e w' => e = .returned (.bool false) ∧ w = w' := by
  have e1 : (a != a) = false := by simp
  go_enter Try.func113, Try.ntmps113
  go_wp2
  go_ret
  exact ⟨rfl, rfl⟩
set_option maxRecDepth 100000 in
theorem nan_i64 (a : Int) (w : World) : Calls Try.prog 114 #[.int .i64 a] w fun e w' => e = .returned (.bool false) ∧ w = w' := by
  have e1 : (a != a) = false := by simp
  go_enter Try.func114, Try.ntmps114
  go_wp2
  go_ret
  exact ⟨rfl, rfl⟩
theorem cmpI_cases (a b : Int) : (a < b ∧ cmpI a b = -1) ∨ (b < a ∧ b ≤ a ∧ cmpI a b = 1) ∨ (a = b ∧ cmpI a b = 0) := by
  unfold cmpI
  rcases Int.lt_trichotomy a b with h | h | h
  · exact .inl ⟨h, by rw [if_pos h]⟩
  · exact .inr (.inr ⟨h, by rw [if_neg (by omega), if_neg (by omega)]⟩)
  · exact .inr (.inl ⟨h, by omega, by rw [if_neg (by omega), if_pos h]⟩)
set_option maxRecDepth 100000 in
set_option maxHeartbeats 2000000 in
theorem cmp_u8 (a b : Int) (w : World) : Calls Try.prog 105 #[.int .u8 a, .int .u8 b] w fun e w' => e = .returned (.int .i64 (cmpI a b)) ∧ w = w' := by
  have HN := Lib.hid nan_u8
  rcases cmpI_cases a b with ⟨h, hc⟩ | ⟨h, h', hc⟩ | ⟨rfl, hc⟩
  all_goals
    rw [hc]
    clear hc
    go_enter Try.func105, Try.ntmps105
    go_wp2_with fail
    refine (HN.out _ _).mono ?_
    rintro e w1 ⟨rfl, rfl⟩
    go_wp2_with fail
    refine (HN.out _ _).mono ?_
    rintro e w1 ⟨rfl, rfl⟩
    go_wp2
    go_ret
    exact ⟨rfl, rfl⟩
set_option maxRecDepth 100000 in
set_option maxHeartbeats 2000000 in
theorem cmp_i64 (a b : Int) (w : World) : Calls Try.prog 106 #[.int .i64 a, .int .i64 b] w fun e w' => e = .returned (.int .i64 (cmpI a b)) ∧ w = w' := by
  have HN := Lib.hid nan_i64
  rcases cmpI_cases a b with ⟨h, hc⟩ | ⟨h, h', hc⟩ | ⟨rfl, hc⟩
  all_goals
    rw [hc]
    clear hc
    go_enter Try.func106, Try.ntmps106
    go_wp2_with fail
    refine (HN.out _ _).mono ?_
    rintro e w1 ⟨rfl, rfl⟩
    go_wp2_with fail
    refine (HN.out _ _).mono ?_
    rintro e w1 ⟨rfl, rfl⟩
    go_wp2
    go_ret
    exact ⟨rfl, rfl⟩
theorem cmpL_bytes (x y : List UInt8) : Lib.compareBytes x y = cmpL (x.map UInt8.toNat) (y.map UInt8.toNat) := by
  induction x generalizing y with
  | nil => cases y <;> rfl
  | cons a x ih =>
    cases y with
    | nil => rfl
    | cons b y =>
      simp only [Lib.compareBytes, List.map_cons, cmpL, ih y]
      rfl
theorem strCmp (a b : ByteArray) (w : World) : Calls Try.prog 60 #[.string a, .string b] w fun e w' => e = .returned (.int .i64 (cmpL (bts a) (bts b))) ∧ w = w' := by
  have h := Try.strings_Compare a b w
  rw [cmpL_bytes] at h
  exact h.mono fun e w' he => ⟨he.1, he.2.symm⟩
theorem bne_yes7 {a b : Int} (h : ¬ a = b) : (a != b) = true := by rw [bne_iff_ne]; exact h
set_option maxRecDepth 100000 in
set_option maxHeartbeats 4000000 in
theorem vcompare_any (x y : Val) (w : World) :
    Calls Try.prog 89 #[valV x, valV y] w fun e w' => e = .returned (.int .i64 (valCmp x y)) ∧ Below w.heap.size w w' := by
  obtain ⟨p, q, a⟩ := x
  obtain ⟨p', q', b⟩ := y
  have H8 := Lib.hid cmp_u8
  have H64 := Lib.hid cmp_i64
  have HS := Lib.hid strCmp
  by_cases hp : p = p'
  · subst hp
    by_cases h1 : p = 1
    · have hv : valCmp (p, q, a) (p, q', b) = cmpI q q' := by unfold valCmp; simp [h1]
      rw [hv]
      clear hv
      subst h1
      go_enter Try.func89, Try.ntmps89
      go_wp2_with fail
      refine (H64.out _ _ _).mono ?_
      rintro e w1 ⟨rfl, rfl⟩
      go_wp2
      go_ret
      exact ⟨rfl, hb2⟩
    · by_cases h23 : p = 2 ∨ p = 3
      · have hv : valCmp (p, q, a) (p, q', b) = cmpL (bts a) (bts b) := by unfold valCmp; simp [h1, h23]
        rw [hv]
        clear hv h1
        rcases h23 with rfl | rfl
        all_goals
          go_enter Try.func89, Try.ntmps89
          go_wp2_with fail
          refine (HS.out _ _ _).mono ?_
          rintro e w1 ⟨rfl, rfl⟩
          go_wp2
          go_ret
          exact ⟨rfl, hb2⟩
      · have hv : valCmp (p, q, a) (p, q', b) = 0 := by unfold valCmp; simp [h1, h23]
        have e1 := beq_no h1
        have e2 := beq_no (a := p) (b := 2) (fun e => h23 (.inl e))
        have e3 := beq_no (a := p) (b := 3) (fun e => h23 (.inr e))
        rw [hv]
        clear hv h1 h23
        go_enter Try.func89, Try.ntmps89
        go_wp2
        go_ret
        exact ⟨rfl, hb2⟩
  · have hv : valCmp (p, q, a) (p', q', b) = cmpI p p' := by unfold valCmp; simp [hp]
    have e1 := bne_yes7 hp
    rw [hv]
    clear hv hp
    go_enter Try.func89, Try.ntmps89
    go_wp2_with fail
    refine (H8.out _ _ _).mono ?_
    rintro e w1 ⟨rfl, rfl⟩
    go_wp2
    go_ret
    exact ⟨rfl, hb2⟩
abbrev cmpV : Value := .func (.func 89) #[] #[]
theorem rowCmp_nil (l : List Val) : rowCmp [] l = if l.length = 0 then 0 else -1 := by cases l <;> simp [rowCmp]
set_option maxRecDepth 100000 in
set_option maxHeartbeats 8000000 in
theorem cmpFunc_any (A : Option Addr) (la : List Val) (n c : Nat) (C : Option Addr) (lb : List Val) (k d : Nat) (w : World) (hV : Vals w w.heap.size A la) (hV' : Vals w w.heap.size C lb) (hn : n = la.length) (hn' : k = lb.length) (h60 : n ≤ 100) (h60' : k ≤ 100) :
    Calls Try.prog 88 #[.slice A n c, .slice C k d, cmpV] w fun e w' => e = .returned (.int .i64 (rowCmp la lb)) ∧ Below w.heap.size w w' := by
  have HA : Hid (0 < n → ∃ b o, A = some ⟨b, o, none⟩ ∧ b < w.heap.size ∧ ∀ (j : Nat) x, la[j]? = some x → w.cell? ⟨b, o + j * 3, none⟩ = some (.int .u8 x.1) ∧ w.cell? ⟨b, o + j * 3 + 1, none⟩ = some (.int .i64 x.2.1) ∧ w.cell? ⟨b, o + j * 3 + 2, none⟩ = some (.string x.2.2)) :=
    Lib.hid fun h => vals_get hV (fun e => by rw [e] at hn; simp at hn; omega)
  have HB : Hid (0 < k → ∃ b o, C = some ⟨b, o, none⟩ ∧ b < w.heap.size ∧ ∀ (j : Nat) x, lb[j]? = some x → w.cell? ⟨b, o + j * 3, none⟩ = some (.int .u8 x.1) ∧ w.cell? ⟨b, o + j * 3 + 1, none⟩ = some (.int .i64 x.2.1) ∧ w.cell? ⟨b, o + j * 3 + 2, none⟩ = some (.string x.2.2)) :=
    Lib.hid fun h => vals_get hV' (fun e => by rw [e] at hn'; simp at hn'; omega)
  have HN := Lib.hid (And.intro hn hn')
  have HVC := Lib.hid vcompare_any
  have hnI : (n : Int) ≤ 100 := by omega
  have hkI : (k : Int) ≤ 100 := by omega
  clear hV hV' hn hn'
  go_enter Try.func88, Try.ntmps88
  go_wp2
  go_loopw [13] (fun i wr => ∃ j : Nat, j ≤ n ∧ j ≤ k ∧ i = .int .i64 j ∧ rowCmp la lb = rowCmp (la.drop j) (lb.drop j) ∧ Below w.heap.size w wr) (fun i _ => n - (intOf i).toNat)
  case atStart => exact ⟨0, by omega, by omega, rfl, rfl, Below.refl _ _⟩
  case round =>
    obtain ⟨j, hj, hj', rfl, heq, hb⟩ := hrel
    have hl := HN.out.1
    have hl' := HN.out.2
    by_cases h1 : j < n
    · obtain ⟨b1, o1, rfl, l1, q1⟩ := HA.out (by omega)
      have hjl : j < la.length := by omega
      obtain ⟨a1, a2, a3⟩ := q1 j la[j] (List.getElem?_eq_getElem hjl)
      have c1 := (hb.cell (p := ⟨b1, o1 + j * 3, none⟩) l1).trans a1
      have c2 := (hb.cell (p := ⟨b1, o1 + j * 3 + 1, none⟩) l1).trans a2
      have c3 := (hb.cell (p := ⟨b1, o1 + j * 3 + 2, none⟩) l1).trans a3
      rw [List.drop_eq_getElem_cons hjl] at heq
      have hI1 : (j : Int) < n := by omega
      have hI0 : (0 : Int) ≤ j := by omega
      by_cases h2 : j < k
      · obtain ⟨b2, o2, rfl, l2, q2⟩ := HB.out (by omega)
        have hjl' : j < lb.length := by omega
        obtain ⟨a4, a5, a6⟩ := q2 j lb[j] (List.getElem?_eq_getElem hjl')
        have hba := hb.alloc hb.size (.cells #[.int .u8 la[j].1, .int .i64 la[j].2.1, .string la[j].2.2] 56)
        have c4 := (hba.cell (p := ⟨b2, o2 + j * 3, none⟩) l2).trans a4
        have c5 := (hba.cell (p := ⟨b2, o2 + j * 3 + 1, none⟩) l2).trans a5
        have c6 := (hba.cell (p := ⟨b2, o2 + j * 3 + 2, none⟩) l2).trans a6
        have hbb := hba.alloc hba.size (.cells #[.int .u8 lb[j].1, .int .i64 lb[j].2.1, .string lb[j].2.2] 56)
        rw [List.drop_eq_getElem_cons hjl'] at heq
        simp only [rowCmp] at heq
        have hcm := fun W => HVC.out la[j] lb[j] W
        generalize la[j] = x at *
        generalize lb[j] = y at *
        generalize valCmp x y = E at *
        obtain ⟨p, q, s⟩ := x
        obtain ⟨p', q', t⟩ := y
        simp only at c1 c2 c3 c4 c5 c6 hba hbb
        have HCM := Lib.hid hcm
        have HBB := Lib.hid hbb
        have hI2 : (j : Int) < k := by omega
        by_cases hE : E = 0
        · have HE := Lib.hid (show rowCmp la lb = rowCmp (la.drop (j + 1)) (lb.drop (j + 1)) by rw [heq, if_neg (by simpa using hE)])
          subst hE
          clear heq hcm a1 a2 a3 a4 a5 a6 q1 q2 hl hl' hjl hjl' hba hbb
          go_wp2_with fail
          refine (HCM.out _).mono ?_
          rintro e w3 ⟨rfl, hb3⟩
          go_wp2
          go_roundw
          case rel => exact ⟨j + 1, by omega, by omega, by go_num, HE.out, bj HBB.out hb3⟩
          case measure => simp [intOf]; omega
        · have HE := Lib.hid (show rowCmp la lb = E by rw [heq, if_pos hE])
          have hEn : (E != 0) = true := by rw [bne_iff_ne]; exact hE
          clear heq hcm a1 a2 a3 a4 a5 a6 q1 q2 hl hl' hjl hjl' hE hba hbb
          go_wp2_with fail
          refine (HCM.out _).mono ?_
          rintro e w3 ⟨rfl, hb3⟩
          go_wp2
          go_ret
          exact ⟨rint HE.out.symm, bj HBB.out hb3⟩
      · have HE := Lib.hid (show rowCmp la lb = 1 by rw [heq, List.drop_of_length_le (show lb.length ≤ j by omega)]; rfl)
        have hba := hb.alloc hb.size (.cells #[.int .u8 la[j].1, .int .i64 la[j].2.1, .string la[j].2.2] 56)
        generalize la[j] = x at *
        obtain ⟨p, q, s⟩ := x
        simp only at c1 c2 c3 hba
        have HBA := Lib.hid hba
        have hI2 : (k : Int) ≤ j := by omega
        clear heq a1 a2 a3 q1 hl hl' hjl hba
        go_wp2
        go_ret
        exact ⟨rint HE.out.symm, HBA.out⟩
    · obtain rfl : j = n := by omega
      have hI1 : ¬ ((j : Int) < j) := by omega
      by_cases h2 : j < k
      · have HE := Lib.hid (show rowCmp la lb = -1 by rw [heq, List.drop_of_length_le (by omega), rowCmp_nil, if_neg (by rw [List.length_drop]; omega)])
        have hI2 : (j : Int) < k := by omega
        clear heq hl hl'
        go_wp2
        go_ret
        exact ⟨rint HE.out.symm, hb⟩
      · have HE := Lib.hid (show rowCmp la lb = 0 by rw [heq, List.drop_of_length_le (by omega), rowCmp_nil, if_pos (by rw [List.length_drop]; omega)])
        have hI2 : (k : Int) ≤ j := by omega
        clear heq hl hl'
        go_wp2
        go_ret
        exact ⟨rint HE.out.symm, hb⟩
set_option maxRecDepth 100000 in
set_option maxHeartbeats 2000000 in
theorem cmpRows_any (A : Option Addr) (la : List Val) (n c : Nat) (C : Option Addr) (lb : List Val) (k d : Nat) (w : World) (hV : Vals w w.heap.size A la) (hV' : Vals w w.heap.size C lb) (hn : n = la.length) (hn' : k = lb.length) (h60 : n ≤ 100) (h60' : k ≤ 100) :
    Calls Try.prog 61 #[.slice A n c, .slice C k d] w fun e w' => e = .returned (.int .i64 (rowCmp la lb)) ∧ Below w.heap.size w w' := by
  have HF := Lib.hid (cmpFunc_any A la n c C lb k d w hV hV' hn hn' h60 h60')
  clear hV hV' hn hn' h60 h60'
  go_enter Try.func61, Try.ntmps61
  go_wp2_with fail
  refine (HF.out).mono ?_
  rintro e w3 ⟨rfl, hb3⟩
  go_wp2
  go_ret
  exact ⟨rfl, hb3⟩
end Go.Proofs.Ytocbdehcjcggeaa
