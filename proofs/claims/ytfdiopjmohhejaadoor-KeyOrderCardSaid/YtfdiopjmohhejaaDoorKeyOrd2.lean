/- The document's own order of texts, values and rows. Conditions: those of each lemma. -/
import Derived.Test.YtfdiopjmohhejaaDoorKeyOrd
import Derived.Test.YtfdiopjmohhejaaDoorKeyW
import Derived.Deep.QuietTactic
import Derived.BigQuiet
import Derived.Deep.RegionWith
namespace Go.Proofs.YtfdiopjmohhejaaDoor
open Go.RowKit
set_option linter.unusedVariables false
set_option maxRecDepth 100000 in
set_option maxHeartbeats 2000000 in
theorem numbers_any (a b : Int) (w : World) : Calls Tryd.prog 38 #[.int .i64 a, .int .i64 b] w fun e w' => e = .returned (.int .i64 (cmpI a b)) ∧ w = w' := by
  by_cases h1 : a < b
  · have HC := Lib.hid (show cmpI a b = -1 by unfold cmpI; rw [if_pos h1])
    go_enter Tryd.func38, Tryd.ntmps38
    go_wp2
    go_ret
    exact ⟨rint HC.out.symm, rfl⟩
  · by_cases h2 : b < a
    · have HC := Lib.hid (show cmpI a b = 1 by unfold cmpI; rw [if_neg h1, if_pos h2])
      have h1' : b ≤ a := by omega
      clear h1
      go_enter Tryd.func38, Tryd.ntmps38
      go_wp2
      go_ret
      exact ⟨rint HC.out.symm, rfl⟩
    · have HC := Lib.hid (show cmpI a b = 0 by unfold cmpI; rw [if_neg h1, if_neg h2])
      obtain rfl : a = b := by omega
      clear h1 h2
      go_enter Tryd.func38, Tryd.ntmps38
      go_wp2
      go_ret
      exact ⟨rint HC.out.symm, rfl⟩
theorem cmpL_len : ∀ (a b : List Nat), (a = [] ∨ b = []) → cmpL a b = cmpI a.length b.length
  | [], [], _ => rfl
  | [], _ :: _, _ => by simp [cmpL, cmpI]; try omega
  | _ :: _, [], _ => by simp [cmpL, cmpI]; try omega
  | _ :: _, _ :: _, h => by simp at h
set_option maxRecDepth 100000 in
set_option maxHeartbeats 4000000 in
theorem texts_any (S T : ByteArray) (w : World) (hS : S.size ≤ 100000) (hT : T.size ≤ 100000) : Calls Tryd.prog 50 #[.string S, .string T] w fun e w' => e = .returned (.int .i64 (cmpL (bts S) (bts T))) ∧ Below w.heap.size w w' := by
  have hl := bts_length S
  have hl' := bts_length T
  have hSI : (S.size : Int) ≤ 100000 := by omega
  have hTI : (T.size : Int) ≤ 100000 := by omega
  have HL := Lib.hid hl
  have HL' := Lib.hid hl'
  have HNU := Lib.hid numbers_any
  clear hl hl'
  go_enter Tryd.func50, Tryd.ntmps50
  go_wp2
  go_loopw [5] (fun i wr => ∃ j : Nat, j ≤ S.size ∧ j ≤ T.size ∧ i = .int .i64 j ∧ cmpL (bts S) (bts T) = cmpL ((bts S).drop j) ((bts T).drop j) ∧ Below w.heap.size w wr) (fun i _ => S.size - (intOf i).toNat)
  case atStart => exact ⟨0, by omega, by omega, rfl, rfl, Below.refl _ _⟩
  case round =>
    obtain ⟨j, hj, hj', rfl, heq, hb⟩ := hrel
    have hl := HL.out
    have hl' := HL'.out
    by_cases h1 : j < S.size
    · by_cases h2 : j < T.size
      · have hx1 := byte_at S j h1
        have hx2 := byte_at T j h2
        have k1 := bts_getD_lt S j
        have k2 := bts_getD_lt T j
        have hd1 : (bts S).drop j = (bts S).getD j 0 :: (bts S).drop (j + 1) := by
          rw [List.drop_eq_getElem_cons (by omega), List.getD_eq_getElem?_getD, List.getElem?_eq_getElem (by omega)]; rfl
        have hd2 : (bts T).drop j = (bts T).getD j 0 :: (bts T).drop (j + 1) := by
          rw [List.drop_eq_getElem_cons (by omega), List.getD_eq_getElem?_getD, List.getElem?_eq_getElem (by omega)]; rfl
        rw [hd1, hd2] at heq
        generalize (bts S).getD j 0 = a at *
        generalize (bts T).getD j 0 = b at *
        have hI1 : (j : Int) < S.size := by omega
        have hI2 : (j : Int) < T.size := by omega
        by_cases hab : a = b
        · subst hab
          rw [cmpL_eq] at heq
          have HE := Lib.hid heq
          clear heq hd1 hd2
          go_wp2_with fail
          go_quiet (fail)
          go_wp2
          go_roundw
          case rel => exact ⟨j + 1, by omega, by omega, by go_num, HE.out, below_drewN hb _⟩
          case measure => simp [intOf]; omega
        · have hne : ((a : Int) != b) = true := by rw [bne_iff_ne]; omega
          have HE := Lib.hid (show cmpL (bts S) (bts T) = cmpI a b by
            rw [heq]
            rcases Nat.lt_or_gt_of_ne hab with h | h
            · rw [cmpL_lt h]; unfold cmpI; rw [if_pos (by omega)]
            · rw [cmpL_gt h]; unfold cmpI; rw [if_neg (by omega), if_pos (by omega)])
          have hwa : IntKind.i64.wrap (a : Int) = a := by simp [IntKind.wrap, IntKind.bits, IntKind.signed]; omega
          have hwb : IntKind.i64.wrap (b : Int) = b := by simp [IntKind.wrap, IntKind.bits, IntKind.signed]; omega
          clear heq hd1 hd2 hab
          go_wp2_with fail
          go_quiet (fail)
          go_wp2_with fail
          go_region_with ((go_at_call 38; (with_reducible refine (HNU.out _ _ _).mono ?_); rintro e w3 ⟨rfl, rfl⟩))
          all_goals
            go_wp2
            go_ret
            exact ⟨rint HE.out.symm, below_drewN (below_drewN hb _) 1⟩
      · have HE := Lib.hid (show cmpL (bts S) (bts T) = cmpI S.size T.size by
          rw [heq, cmpL_len _ _ (.inr (List.drop_of_length_le (by omega))), List.length_drop, List.length_drop, hl, hl']
          unfold cmpI
          have e1 : (((S.size - j : Nat) : Int) < ((T.size - j : Nat) : Int)) ↔ ((S.size : Int) < T.size) := by omega
          have e2 : (((S.size - j : Nat) : Int) > ((T.size - j : Nat) : Int)) ↔ ((S.size : Int) > T.size) := by omega
          simp only [e1, e2])
        have hI1 : (j : Int) < S.size := by omega
        have hI2 : (T.size : Int) ≤ j := by omega
        clear heq
        go_wp2_with fail
        refine (HNU.out _ _ _).mono ?_
        rintro e w3 ⟨rfl, rfl⟩
        go_wp2
        go_ret
        exact ⟨rint HE.out.symm, hb⟩
    · have HE := Lib.hid (show cmpL (bts S) (bts T) = cmpI S.size T.size by
        rw [heq, cmpL_len _ _ (.inl (List.drop_of_length_le (by omega))), List.length_drop, List.length_drop, hl, hl']
        unfold cmpI
        have e1 : (((S.size - j : Nat) : Int) < ((T.size - j : Nat) : Int)) ↔ ((S.size : Int) < T.size) := by omega
        have e2 : (((S.size - j : Nat) : Int) > ((T.size - j : Nat) : Int)) ↔ ((S.size : Int) > T.size) := by omega
        simp only [e1, e2])
      have hI1 : (S.size : Int) ≤ j := by omega
      clear heq
      go_wp2_with fail
      refine (HNU.out _ _ _).mono ?_
      rintro e w3 ⟨rfl, rfl⟩
      go_wp2
      go_ret
      exact ⟨rint HE.out.symm, hb⟩
end Go.Proofs.YtfdiopjmohhejaaDoor
