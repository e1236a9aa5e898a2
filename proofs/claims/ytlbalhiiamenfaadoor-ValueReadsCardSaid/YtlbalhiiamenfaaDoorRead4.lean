/- counterfoilref07.digit, told, number. Conditions: those of each lemma. -/
import Derived.Test.YtlbalhiiamenfaaDoorRead3
namespace Go.Proofs.YtlbalhiiamenfaaDoor
open Go.RowKit
set_option linter.unusedVariables false
set_option maxRecDepth 100000 in
set_option maxHeartbeats 4000000 in
theorem rdigit (c : Nat) (W : World) (h : c < 256) : Calls Tryd.prog 44 #[.int .u8 (c : Int)] W fun e w' => e = .returned (.int .i64 (hexI c)) ∧ W = w' := by
  by_cases h1 : 48 ≤ c ∧ c ≤ 57
  · have HE := Lib.hid (show hexI c = (c : Int) - 48 by unfold hexI hexd; rw [if_pos h1]; simp only; omega)
    obtain ⟨h1, h2⟩ := h1
    have k1 : (48 : Int) ≤ c := by omega
    have k2 : (c : Int) ≤ 57 := by omega
    clear h1 h2
    go_enter Tryd.func44, Tryd.ntmps44
    go_wp2
    go_ret
    exact ⟨rint HE.out.symm, rfl⟩
  · by_cases h2 : 97 ≤ c ∧ c ≤ 102
    · have HE := Lib.hid (show hexI c = (c : Int) - 97 + 10 by unfold hexI hexd; rw [if_neg h1, if_pos h2]; simp only; omega)
      obtain ⟨h2, h3⟩ := h2
      have k0 : (48 : Int) ≤ c := by omega
      have k3 : ¬ ((c : Int) ≤ 57) := by omega
      have k3' : (57 : Int) < c := by omega
      have k1 : (97 : Int) ≤ c := by omega
      have k2 : (c : Int) ≤ 102 := by omega
      clear h1 h2 h3
      go_enter Tryd.func44, Tryd.ntmps44
      go_wp2
      go_ret
      exact ⟨rint HE.out.symm, rfl⟩
    · have HE := Lib.hid (show hexI c = -1 by unfold hexI hexd; rw [if_neg h1, if_neg h2])
      have hd1 : (decide ((48 : Int) ≤ c) && decide ((c : Int) ≤ 57)) = false := by
        by_cases h : 48 ≤ c
        · have : ¬ (c : Int) ≤ 57 := by omega
          simp [this]
        · have : ¬ (48 : Int) ≤ c := by omega
          simp [this]
      by_cases a1 : 48 ≤ c
      · have k1 : (48 : Int) ≤ c := by omega
        have k2 : (57 : Int) < c := by omega
        by_cases a2 : 97 ≤ c
        · have k3 : (97 : Int) ≤ c := by omega
          have k4 : (102 : Int) < c := by omega
          clear h1 h2 hd1 a1 a2
          go_enter Tryd.func44, Tryd.ntmps44
          go_wp2
          go_ret
          exact ⟨rint HE.out.symm, rfl⟩
        · have k3 : (c : Int) < 97 := by omega
          clear h1 h2 hd1 a1 a2
          go_enter Tryd.func44, Tryd.ntmps44
          go_wp2
          go_ret
          exact ⟨rint HE.out.symm, rfl⟩
      · have k1 : (c : Int) < 48 := by omega
        have k3 : (c : Int) < 97 := by omega
        clear h1 h2 hd1 a1
        go_enter Tryd.func44, Tryd.ntmps44
        go_wp2
        go_ret
        exact ⟨rint HE.out.symm, rfl⟩
set_option maxRecDepth 100000 in
set_option maxHeartbeats 4000000 in
theorem rtold (k : Int) (s : ByteArray) (w : World) : Calls Tryd.prog 45 #[.agg #[.int .u8 k, .int .i64 0, .string s]] w fun e w' => e = .returned (if 1000 < s.size then .tuple #[.agg #[.int .u8 0, .int .i64 0, .string ⟨#[]⟩], .int .i64 3] else .tuple #[.agg #[.int .u8 k, .int .i64 0, .string s], .int .i64 0]) ∧ Below w.heap.size w w' := by
  obtain ⟨x0, x1, x2, _, _, _⟩ := cell3 (Blk.new w 24 #[.int .u8 k, .int .i64 0, .string s])
  have hv := blk_new (w.alloc (.cells #[.int .u8 k, .int .i64 0, .string s] 24)) (w.heap.size + 1) 24 #[.int .u8 0, .int .i64 0, .string ⟨#[]⟩] (by simp)
  by_cases h : 1000 < s.size
  · rw [if_pos h]
    have hI : (1000 : Int) < s.size := by omega
    clear h
    go_enter Tryd.func45, Tryd.ntmps45
    go_wp2
    first
      | exact bodyPost_ret (v := .tuple #[.agg #[.int .u8 0, .int .i64 0, .string ⟨#[]⟩], .int .i64 3]) (by simp [results, Tryd.results45, go_sem]) rfl ⟨rfl, hb2⟩
      | (obtain ⟨e0, e1, e2, _, _, _⟩ := cell3 (blk3_set hv (.int .u8 0) (.int .i64 0) (.string ⟨#[]⟩))
         exact bodyPost_ret (v := .tuple #[.agg #[.int .u8 0, .int .i64 0, .string ⟨#[]⟩], .int .i64 3]) (by simp [results, Tryd.results45, go_sem, e0, e1, e2]) rfl ⟨rfl, ((hb2.setCell (Nat.le_succ _) _).setCell (Nat.le_succ _) _).setCell (Nat.le_succ _) _⟩)
  · rw [if_neg h]
    have hI : (s.size : Int) ≤ 1000 := by omega
    clear h
    go_enter Tryd.func45, Tryd.ntmps45
    go_wp2
    first
      | exact bodyPost_ret (v := .tuple #[.agg #[.int .u8 k, .int .i64 0, .string s], .int .i64 0]) (by simp [results, Tryd.results45, go_sem]) rfl ⟨rfl, hb2⟩
      | (obtain ⟨e0, e1, e2, _, _, _⟩ := cell3 (blk3_set hv (.int .u8 k) (.int .i64 0) (.string s))
         exact bodyPost_ret (v := .tuple #[.agg #[.int .u8 k, .int .i64 0, .string s], .int .i64 0]) (by simp [results, Tryd.results45, go_sem, e0, e1, e2]) rfl ⟨rfl, ((hb2.setCell (Nat.le_succ _) _).setCell (Nat.le_succ _) _).setCell (Nat.le_succ _) _⟩)
end Go.Proofs.YtlbalhiiamenfaaDoor
