/- The order of values and rows: the document's own, and the program's. Conditions: those of each lemma. -/
import Derived.Test.YtocbdehcjcggeaaProg
import Derived.Test.YtocbdehcjcggeaaVal
import Derived.Deep.QuietTactic
import Derived.BigQuiet
import Derived.Deep.RegionWith
namespace Go.Proofs.Ytocbdehcjcggeaa
open Go.RowKit
set_option linter.unusedVariables false
def cmpI (a b : Int) : Int := if a < b then -1 else if a > b then 1 else 0
/-- two texts, byte by byte -/
def cmpL : List Nat → List Nat → Int
  | [], [] => 0
  | [], _ :: _ => -1
  | _ :: _, [] => 1
  | a :: r, b :: s => if a < b then -1 else if b < a then 1 else cmpL r s
def valCmp (x y : Val) : Int := if x.1 ≠ y.1 then cmpI x.1 y.1 else if x.1 = 1 then cmpI x.2.1 y.2.1 else if x.1 = 2 ∨ x.1 = 3 then cmpL (bts x.2.2) (bts y.2.2) else 0
def rowCmp : List Val → List Val → Int
  | [], [] => 0
  | [], _ :: _ => -1
  | _ :: _, [] => 1
  | x :: a, y :: b => if valCmp x y ≠ 0 then valCmp x y else rowCmp a b
theorem cmpL_lt {a b : Nat} {r s : List Nat} (h : a < b) : cmpL (a :: r) (b :: s) = -1 := by simp [cmpL, h]
theorem cmpL_gt {a b : Nat} {r s : List Nat} (h : b < a) : cmpL (a :: r) (b :: s) = 1 := by simp [cmpL, h]; omega
theorem cmpL_eq {a : Nat} {r s : List Nat} : cmpL (a :: r) (a :: s) = cmpL r s := by simp [cmpL]
set_option maxRecDepth 100000 in
set_option maxHeartbeats 2000000 in
theorem numbers_any (a b : Int) (w : World) : Calls Try.prog 110 #[.int .i64 a, .int .i64 b] w fun e w' => e = .returned (.int .i64 (cmpI a b)) ∧ w = w' := by
  by_cases h1 : a < b
  · have HC := Lib.hid (show cmpI a b = -1 by unfold cmpI; rw [if_pos h1])
    go_enter Try.func110, Try.ntmps110
    go_wp2
    go_ret
    exact ⟨rint HC.out.symm, rfl⟩
  · by_cases h2 : b < a
    · have HC := Lib.hid (show cmpI a b = 1 by unfold cmpI; rw [if_neg h1, if_pos h2])
      have h1' : b ≤ a := by omega
      clear h1
      go_enter Try.func110, Try.ntmps110
      go_wp2
      go_ret
      exact ⟨rint HC.out.symm, rfl⟩
    · have HC := Lib.hid (show cmpI a b = 0 by unfold cmpI; rw [if_neg h1, if_neg h2])
      obtain rfl : a = b := by omega
      clear h1 h2
      go_enter Try.func110, Try.ntmps110
      go_wp2
      go_ret
      exact ⟨rint HC.out.symm, rfl⟩
theorem cmpL_len : ∀ (a b : List Nat), (a = [] ∨ b = []) → cmpL a b = cmpI a.length b.length
  | [], [], _ => rfl
  | [], _ :: _, _ => by simp [cmpL, cmpI]; try omega
  | _ :: _, [], _ => by simp [cmpL, cmpI]; try omega
  | _ :: _, _ :: _, h => by simp at h
set_option maxRecDepth 100000 in
set_option maxHeartbeats 4000000 in
theorem texts_any (S T : ByteArray) (w : World) (hS : S.size ≤ 100000) (hT : T.size ≤ 100000) : Calls Try.prog 111 #[.string S, .string T] w fun e w' => e = .returned (.int .i64 (cmpL (bts S) (bts T))) ∧ Below w.heap.size w w' := by
  have hl := bts_length S
  have hl' := bts_length T
  have hSI : (S.size : Int) ≤ 100000 := by omega
  have hTI : (T.size : Int) ≤ 100000 := by omega
  have HL := Lib.hid hl
  have HL' := Lib.hid hl'
  have HNU := Lib.hid numbers_any
  clear hl hl'
  go_enter Try.func111, Try.ntmps111
  go_wp2
  go_loopw [5] (fun i wr => ∃ j : Nat, j ≤ S.size ∧ j ≤ T.size ∧ i = .int .i64 j ∧ cmpL (bts S) (bts T) = cmpL ((bts S).drop j) ((bts T).drop j) ∧ Below w.heap.size w wr) (fun i _ => S.size - (intOf i).toNat)
  case atStart => exact ⟨0, by omega, by omega, rfl, rfl, Below.refl _ _⟩
  case round =>
    obtain ⟨j, hj, hj', rfl, heq, hb⟩ := hrel
    have hl := HL.out
    have hl' := HL'.out
    by_cases h1 : j < S.size
    · by_cases h2 : j < T.size
      · have hx1 := byte_at S j h1
        have hx2 := byte_at T j h2
        have k1 := bts_getD_lt S j
        have k2 := bts_getD_lt T j
        have hd1 : (bts S).drop j = (bts S).getD j 0 :: (bts S).drop (j + 1) := by
          rw [List.drop_eq_getElem_cons (by omega), List.getD_eq_getElem?_getD, List.getElem?_eq_getElem (by omega)]; rfl
        have hd2 : (bts T).drop j = (bts T).getD j 0 :: (bts T).drop (j + 1) := by
          rw [List.drop_eq_getElem_cons (by omega), List.getD_eq_getElem?_getD, List.getElem?_eq_getElem (by omega)]; rfl
        rw [hd1, hd2] at heq
        generalize (bts S).getD j 0 = a at *
        generalize (bts T).getD j 0 = b at *
        have hI1 : (j : Int) < S.size := by omega
        have hI2 : (j : Int) < T.size := by omega
        by_cases hab : a = b
        · subst hab
          rw [cmpL_eq] at heq
          have HE := Lib.hid heq
          clear heq hd1 hd2
          go_wp2_with fail
          go_quiet (fail)
          go_wp2
          go_roundw
          case rel => exact ⟨j + 1, by omega, by omega, by go_num, HE.out, below_drewN hb _⟩
          case measure => simp [intOf]; omega
        · have hne : ((a : Int) != b) = true := by rw [bne_iff_ne]; omega
          have HE := Lib.hid (show cmpL (bts S) (bts T) = cmpI a b by
            rw [heq]
            rcases Nat.lt_or_gt_of_ne hab with h | h
            · rw [cmpL_lt h]; unfold cmpI; rw [if_pos (by omega)]
            · rw [cmpL_gt h]; unfold cmpI; rw [if_neg (by omega), if_pos (by omega)])
          have hwa : IntKind.i64.wrap (a : Int) = a := by simp [IntKind.wrap, IntKind.bits, IntKind.signed]; omega
          have hwb : IntKind.i64.wrap (b : Int) = b := by simp [IntKind.wrap, IntKind.bits, IntKind.signed]; omega
          clear heq hd1 hd2 hab
          go_wp2_with fail
          go_quiet (fail)
          go_wp2_with fail
          go_region_with ((go_at_call 110; (with_reducible refine (HNU.out _ _ _).mono ?_); rintro e w3 ⟨rfl, rfl⟩))
          all_goals
            go_wp2
            go_ret
            exact ⟨rint HE.out.symm, below_drewN (below_drewN hb _) 1⟩
      · have HE := Lib.hid (show cmpL (bts S) (bts T) = cmpI S.size T.size by
          rw [heq, cmpL_len _ _ (.inr (List.drop_of_length_le (by omega))), List.length_drop, List.length_drop, hl, hl']
          unfold cmpI
          have e1 : (((S.size - j : Nat) : Int) < ((T.size - j : Nat) : Int)) ↔ ((S.size : Int) < T.size) := by omega
          have e2 : (((S.size - j : Nat) : Int) > ((T.size - j : Nat) : Int)) ↔ ((S.size : Int) > T.size) := by omega
          simp only [e1, e2])
        have hI1 : (j : Int) < S.size := by omega
        have hI2 : (T.size : Int) ≤ j := by omega
        clear heq
        go_wp2_with fail
        refine (HNU.out _ _ _).mono ?_
        rintro e w3 ⟨rfl, rfl⟩
        go_wp2
        go_ret
        exact ⟨rint HE.out.symm, hb⟩
    · have HE := Lib.hid (show cmpL (bts S) (bts T) = cmpI S.size T.size by
        rw [heq, cmpL_len _ _ (.inl (List.drop_of_length_le (by omega))), List.length_drop, List.length_drop, hl, hl']
        unfold cmpI
        have e1 : (((S.size - j : Nat) : Int) < ((T.size - j : Nat) : Int)) ↔ ((S.size : Int) < T.size) := by omega
        have e2 : (((S.size - j : Nat) : Int) > ((T.size - j : Nat) : Int)) ↔ ((S.size : Int) > T.size) := by omega
        simp only [e1, e2])
      have hI1 : (S.size : Int) ≤ j := by omega
      clear heq
      go_wp2_with fail
      refine (HNU.out _ _ _).mono ?_
      rintro e w3 ⟨rfl, rfl⟩
      go_wp2
      go_ret
      exact ⟨rint HE.out.symm, hb⟩
set_option maxRecDepth 100000 in
set_option maxHeartbeats 4000000 in
theorem compare_ne (p q p' q' : Int) (a b : ByteArray) (w : World) (hp : p ≠ p') (h0 : 0 ≤ p) (h1 : p < 256) (h0' : 0 ≤ p') (h1' : p' < 256) :
    Calls Try.prog 96 #[.agg #[.int .u8 p, .int .i64 q, .string a], .agg #[.int .u8 p', .int .i64 q', .string b]] w fun e w' => e = .returned (.int .i64 (cmpI p p')) ∧ Below w.heap.size w w' := by
  have hne : (p != p') = true := by rw [bne_iff_ne]; exact hp
  have hwa : IntKind.i64.wrap p = p := by simp [IntKind.wrap, IntKind.bits, IntKind.signed]; omega
  have hwb : IntKind.i64.wrap p' = p' := by simp [IntKind.wrap, IntKind.bits, IntKind.signed]; omega
  have HNU := Lib.hid numbers_any
  clear hp
  go_enter Try.func96, Try.ntmps96
  go_wp2_with fail
  refine (HNU.out _ _ _).mono ?_
  rintro e w3 ⟨rfl, rfl⟩
  go_wp2
  go_ret
  exact ⟨rfl, hb2⟩
set_option maxRecDepth 100000 in
set_option maxHeartbeats 4000000 in
theorem compare_0 (q q' : Int) (a b : ByteArray) (w : World) :
    Calls Try.prog 96 #[.agg #[.int .u8 0, .int .i64 q, .string a], .agg #[.int .u8 0, .int .i64 q', .string b]] w fun e w' => e = .returned (.int .i64 0) ∧ Below w.heap.size w w' := by
  go_enter Try.func96, Try.ntmps96
  go_wp2
  go_ret
  exact ⟨rfl, hb2⟩
set_option maxRecDepth 100000 in
set_option maxHeartbeats 4000000 in
theorem compare_1 (q q' : Int) (a b : ByteArray) (w : World) :
    Calls Try.prog 96 #[.agg #[.int .u8 1, .int .i64 q, .string a], .agg #[.int .u8 1, .int .i64 q', .string b]] w fun e w' => e = .returned (.int .i64 (cmpI q q')) ∧ Below w.heap.size w w' := by
  have HNU := Lib.hid numbers_any
  go_enter Try.func96, Try.ntmps96
  go_wp2_with fail
  refine (HNU.out _ _ _).mono ?_
  rintro e w3 ⟨rfl, rfl⟩
  go_wp2
  go_ret
  exact ⟨rfl, hb2⟩
set_option maxRecDepth 100000 in
set_option maxHeartbeats 4000000 in
theorem compare_23 (p q q' : Int) (a b : ByteArray) (w : World) (ha : a.size ≤ 100000) (hb : b.size ≤ 100000) (hp : p = 2 ∨ p = 3) :
    Calls Try.prog 96 #[.agg #[.int .u8 p, .int .i64 q, .string a], .agg #[.int .u8 p, .int .i64 q', .string b]] w fun e w' => e = .returned (.int .i64 (cmpL (bts a) (bts b))) ∧ Below w.heap.size w w' := by
  have HT := Lib.hid (fun W => texts_any a b W (by omega) (by omega))
  rcases hp with rfl | rfl
  all_goals
    go_enter Try.func96, Try.ntmps96
    go_wp2_with fail
    refine (HT.out _).mono ?_
    rintro e w3 ⟨rfl, hb3⟩
    go_wp2
    go_ret
    exact ⟨rfl, bjaa _ _ (Below.refl _ _) hb3⟩
set_option maxRecDepth 100000 in
set_option maxHeartbeats 4000000 in
theorem compare_oth (p q q' : Int) (a b : ByteArray) (w : World) (h1 : p ≠ 1) (h2 : p ≠ 2) (h3 : p ≠ 3) :
    Calls Try.prog 96 #[.agg #[.int .u8 p, .int .i64 q, .string a], .agg #[.int .u8 p, .int .i64 q', .string b]] w fun e w' => e = .returned (.int .i64 0) ∧ Below w.heap.size w w' := by
  have e1 := beq_no h1
  have e2 := beq_no h2
  have e3 := beq_no h3
  clear h1 h2 h3
  go_enter Try.func96, Try.ntmps96
  go_wp2
  go_ret
  exact ⟨rfl, hb2⟩
theorem compare_any (x y : Val) (w : World) (hf : Fits x) (hs : x.2.2.size ≤ 100000) (hf' : Fits y) (hs' : y.2.2.size ≤ 100000) :
    Calls Try.prog 96 #[valV x, valV y] w fun e w' => e = .returned (.int .i64 (valCmp x y)) ∧ Below w.heap.size w w' := by
  obtain ⟨f1, f2, f3, f4⟩ := hf
  obtain ⟨f1', f2', f3', f4'⟩ := hf'
  obtain ⟨p, q, a⟩ := x
  obtain ⟨p', q', b⟩ := y
  simp only at *
  by_cases hp : p = p'
  · subst hp
    unfold valCmp
    simp only [ne_eq, not_true, ↓reduceIte]
    by_cases h1 : p = 1
    · subst h1; exact compare_1 q q' a b w
    · rw [if_neg h1]
      by_cases h23 : p = 2 ∨ p = 3
      · rw [if_pos h23]
        exact compare_23 p q q' a b w hs hs' h23
      · rw [if_neg h23]
        exact compare_oth p q q' a b w h1 (fun e => h23 (.inl e)) (fun e => h23 (.inr e))
  · unfold valCmp
    simp only [ne_eq, hp, not_false_eq_true, ↓reduceIte]
    exact compare_ne p q p' q' a b w hp f1 f2 f1' f2'
theorem rowCmp_len : ∀ (a b : List Val), (a = [] ∨ b = []) → rowCmp a b = cmpI a.length b.length
  | [], [], _ => rfl
  | [], _ :: _, _ => by simp [rowCmp, cmpI]; try omega
  | _ :: _, [], _ => by simp [rowCmp, cmpI]; try omega
  | _ :: _, _ :: _, h => by simp at h
set_option maxRecDepth 100000 in
set_option maxHeartbeats 8000000 in
theorem rows_any (A : Option Addr) (la : List Val) (n c : Nat) (C : Option Addr) (lb : List Val) (k d : Nat) (w : World) (hV : Vals w w.heap.size A la) (hV' : Vals w w.heap.size C lb) (hn : n = la.length) (hn' : k = lb.length) (h60 : n ≤ 100) (h60' : k ≤ 100) (hf : ∀ x ∈ la, Fits x) (ca : ∀ x ∈ la, x.2.2.size ≤ 4096) (hf' : ∀ x ∈ lb, Fits x) (cb : ∀ x ∈ lb, x.2.2.size ≤ 4096) :
    Calls Try.prog 97 #[.slice A n c, .slice C k d] w fun e w' => e = .returned (.int .i64 (rowCmp la lb)) ∧ Below w.heap.size w w' := by
  have HA : Hid (0 < n → ∃ b o, A = some ⟨b, o, none⟩ ∧ b < w.heap.size ∧ ∀ (j : Nat) x, la[j]? = some x → w.cell? ⟨b, o + j * 3, none⟩ = some (.int .u8 x.1) ∧ w.cell? ⟨b, o + j * 3 + 1, none⟩ = some (.int .i64 x.2.1) ∧ w.cell? ⟨b, o + j * 3 + 2, none⟩ = some (.string x.2.2)) :=
    Lib.hid fun h => vals_get hV (fun e => by rw [e] at hn; simp at hn; omega)
  have HB : Hid (0 < k → ∃ b o, C = some ⟨b, o, none⟩ ∧ b < w.heap.size ∧ ∀ (j : Nat) x, lb[j]? = some x → w.cell? ⟨b, o + j * 3, none⟩ = some (.int .u8 x.1) ∧ w.cell? ⟨b, o + j * 3 + 1, none⟩ = some (.int .i64 x.2.1) ∧ w.cell? ⟨b, o + j * 3 + 2, none⟩ = some (.string x.2.2)) :=
    Lib.hid fun h => vals_get hV' (fun e => by rw [e] at hn'; simp at hn'; omega)
  have HN := Lib.hid (And.intro hn hn')
  have HF := Lib.hid (And.intro hf hf')
  have HC := Lib.hid (And.intro ca cb)
  have HNU := Lib.hid numbers_any
  have hnI : (n : Int) ≤ 100 := by omega
  have hkI : (k : Int) ≤ 100 := by omega
  clear hV hV' hn hn' hf hf' ca cb
  go_enter Try.func97, Try.ntmps97
  go_wp2
  go_loopw [5] (fun i wr => ∃ j : Nat, j ≤ n ∧ j ≤ k ∧ i = .int .i64 j ∧ rowCmp la lb = rowCmp (la.drop j) (lb.drop j) ∧ Below w.heap.size w wr) (fun i _ => n - (intOf i).toNat)
  case atStart => exact ⟨0, by omega, by omega, rfl, rfl, Below.refl _ _⟩
  case round =>
    obtain ⟨j, hj, hj', rfl, heq, hb⟩ := hrel
    have hl := HN.out.1
    have hl' := HN.out.2
    by_cases h1 : j < n
    · by_cases h2 : j < k
      · obtain ⟨b1, o1, rfl, l1, q1⟩ := HA.out (by omega)
        obtain ⟨b2, o2, rfl, l2, q2⟩ := HB.out (by omega)
        have hjl : j < la.length := by omega
        have hjl' : j < lb.length := by omega
        obtain ⟨a1, a2, a3⟩ := q1 j la[j] (List.getElem?_eq_getElem hjl)
        obtain ⟨a4, a5, a6⟩ := q2 j lb[j] (List.getElem?_eq_getElem hjl')
        have c1 := (hb.cell (p := ⟨b1, o1 + j * 3, none⟩) l1).trans a1
        have c2 := (hb.cell (p := ⟨b1, o1 + j * 3 + 1, none⟩) l1).trans a2
        have c3 := (hb.cell (p := ⟨b1, o1 + j * 3 + 2, none⟩) l1).trans a3
        have c4 := (hb.cell (p := ⟨b2, o2 + j * 3, none⟩) l2).trans a4
        have c5 := (hb.cell (p := ⟨b2, o2 + j * 3 + 1, none⟩) l2).trans a5
        have c6 := (hb.cell (p := ⟨b2, o2 + j * 3 + 2, none⟩) l2).trans a6
        have hcm := fun W => compare_any la[j] lb[j] W (HF.out.1 _ (List.getElem_mem hjl)) (Nat.le_trans (HC.out.1 _ (List.getElem_mem hjl)) (by omega)) (HF.out.2 _ (List.getElem_mem hjl')) (Nat.le_trans (HC.out.2 _ (List.getElem_mem hjl')) (by omega))
        rw [List.drop_eq_getElem_cons hjl, List.drop_eq_getElem_cons hjl'] at heq
        simp only [rowCmp] at heq
        generalize la[j] = x at *
        generalize lb[j] = y at *
        generalize valCmp x y = E at *
        obtain ⟨p, q, s⟩ := x
        obtain ⟨p', q', t⟩ := y
        simp only at c1 c2 c3 c4 c5 c6
        have HCM := Lib.hid hcm
        have hI1 : (j : Int) < n := by omega
        have hI2 : (j : Int) < k := by omega
        have hI0 : (0 : Int) ≤ j := by omega
        by_cases hE : E = 0
        · have HE := Lib.hid (show rowCmp la lb = rowCmp (la.drop (j + 1)) (lb.drop (j + 1)) by rw [heq, if_neg (by simpa using hE)])
          subst hE
          clear heq hcm a1 a2 a3 a4 a5 a6 q1 q2 hl hl' hjl hjl'
          go_wp2_with fail
          go_region_with ((go_at_call 96; (with_reducible refine (HCM.out _).mono ?_); rintro e w3 ⟨rfl, hb3⟩))
          all_goals
            go_wp2
            go_roundw
            case rel => exact ⟨j + 1, by omega, by omega, by go_num, HE.out, by first | exact bj hb.drew hb3 | exact bj hb hb3⟩
            case measure => simp [intOf]; omega
        · have HE := Lib.hid (show rowCmp la lb = E by rw [heq, if_pos hE])
          have hEn : (E != 0) = true := by rw [bne_iff_ne]; exact hE
          have HEE := Lib.hid hE
          clear heq hcm a1 a2 a3 a4 a5 a6 q1 q2 hl hl' hjl hjl' hE
          go_wp2_with fail
          go_region_with ((go_at_call 96; (with_reducible refine (HCM.out _).mono ?_); rintro e w3 ⟨rfl, hb3⟩))
          all_goals
            go_wp2
            go_ret
            exact ⟨rint HE.out.symm, by first | exact bj hb.drew hb3 | exact bj hb hb3⟩
      · have HE := Lib.hid (show rowCmp la lb = cmpI n k by
          rw [heq, rowCmp_len _ _ (.inr (List.drop_of_length_le (by omega))), List.length_drop, List.length_drop, ← hl, ← hl']
          unfold cmpI
          have e1 : (((n - j : Nat) : Int) < ((k - j : Nat) : Int)) ↔ ((n : Int) < k) := by omega
          have e2 : (((n - j : Nat) : Int) > ((k - j : Nat) : Int)) ↔ ((n : Int) > k) := by omega
          simp only [e1, e2])
        have hI1 : (j : Int) < n := by omega
        have hI2 : (k : Int) ≤ j := by omega
        clear heq hl hl'
        go_wp2_with fail
        refine (HNU.out _ _ _).mono ?_
        rintro e w3 ⟨rfl, rfl⟩
        go_wp2
        go_ret
        exact ⟨rint HE.out.symm, hb⟩
    · have HE := Lib.hid (show rowCmp la lb = cmpI n k by
        rw [heq, rowCmp_len _ _ (.inl (List.drop_of_length_le (by omega))), List.length_drop, List.length_drop, ← hl, ← hl']
        unfold cmpI
        have e1 : (((n - j : Nat) : Int) < ((k - j : Nat) : Int)) ↔ ((n : Int) < k) := by omega
        have e2 : (((n - j : Nat) : Int) > ((k - j : Nat) : Int)) ↔ ((n : Int) > k) := by omega
        simp only [e1, e2])
      have hI1 : (n : Int) ≤ j := by omega
      clear heq hl hl'
      go_wp2_with fail
      refine (HNU.out _ _ _).mono ?_
      rintro e w3 ⟨rfl, rfl⟩
      go_wp2
      go_ret
      exact ⟨rint HE.out.symm, hb⟩
end Go.Proofs.Ytocbdehcjcggeaa
