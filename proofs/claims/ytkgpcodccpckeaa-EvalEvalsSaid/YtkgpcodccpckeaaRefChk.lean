/- ref07's Check of any value (out of XKeyR2, for seats without keys). Conditions: the numbers fit their kinds. -/
import Derived.Test.YtkgpcodccpckeaaProg
import Derived.Test.YtkgpcodccpckeaaVal
namespace Go.Proofs.Ytkgpcodccpckeaa
open Go.RowKit
set_option linter.unusedVariables false
theorem str_em {s : ByteArray} (h : s.size ≠ 0) : s.toList.isEmpty = false := by
  have := str_no h
  cases hh : s.toList with
  | nil => exact absurd hh this
  | cons a l => rfl
theorem bne_yes {a b : Int} (h : ¬ a = b) : (a != b) = true := by rw [bne_iff_ne]; exact h
set_option maxRecDepth 100000 in
set_option maxHeartbeats 2000000 in
theorem refCheck0 (n : Int) (s : ByteArray) (w : World) :
    Calls Try.prog 53 #[valV (0, n, s)] w fun e w' => e = .returned (.int .i64 (chk (0, n, s))) ∧ Below w.heap.size w w' := by
  have hb1 : ∀ {o : Obj}, Below w.heap.size w (w.alloc o) := (Below.refl _ _).alloc (Nat.le_refl _) _
  by_cases h1 : n = 0
  · by_cases h2 : s.size = 0
    · subst h1
      obtain rfl := empty_of h2
      have HC := Lib.hid (show chk (0, 0, bstr []) = 0 by decide)
      rw [show (bstr [] : ByteArray) = ⟨#[]⟩ from rfl] at *
      go_enter Try.func53, Try.ntmps53
      go_wp2
      go_ret
      exact ⟨rint HC.out.symm, hb1⟩
    · have HC := Lib.hid (chk_bad (x := (0, n, s)) (by simp only; omega))
      have e := str_no h2
      have e' := str_em h2
      subst h1
      clear h2
      go_enter Try.func53, Try.ntmps53
      go_wp2
      go_ret
      exact ⟨rint HC.out.symm, hb1⟩
  · have HC := Lib.hid (chk_bad (x := (0, n, s)) (by simp only; omega))
    have e := beq_no h1
    have e' := bne_yes h1
    clear h1
    go_enter Try.func53, Try.ntmps53
    go_wp2
    go_ret
    exact ⟨rint HC.out.symm, hb1⟩
set_option maxRecDepth 100000 in
set_option maxHeartbeats 2000000 in
theorem refCheck1 (n : Int) (s : ByteArray) (w : World) :
    Calls Try.prog 53 #[valV (1, n, s)] w fun e w' => e = .returned (.int .i64 (chk (1, n, s))) ∧ Below w.heap.size w w' := by
  have hb1 : ∀ {o : Obj}, Below w.heap.size w (w.alloc o) := (Below.refl _ _).alloc (Nat.le_refl _) _
  by_cases h2 : s.size = 0
  · obtain rfl := empty_of h2
    have HC := Lib.hid (chk_ok (x := (1, n, bstr [])) (by simp only; omega) (by simp only; omega))
    rw [show (bstr [] : ByteArray) = ⟨#[]⟩ from rfl] at *
    go_enter Try.func53, Try.ntmps53
    go_wp2
    go_ret
    exact ⟨rint HC.out.symm, hb1⟩
  · have HC := Lib.hid (chk_bad (x := (1, n, s)) (by simp only; omega))
    have e := str_no h2
    have e' := str_em h2
    clear h2
    go_enter Try.func53, Try.ntmps53
    go_wp2
    go_ret
    exact ⟨rint HC.out.symm, hb1⟩
set_option maxRecDepth 100000 in
set_option maxHeartbeats 2000000 in
theorem refCheck23 (k n : Int) (s : ByteArray) (w : World) (hk : k = 2 ∨ k = 3) :
    Calls Try.prog 53 #[valV (k, n, s)] w fun e w' => e = .returned (.int .i64 (chk (k, n, s))) ∧ Below w.heap.size w w' := by
  have hb1 : ∀ {o : Obj}, Below w.heap.size w (w.alloc o) := (Below.refl _ _).alloc (Nat.le_refl _) _
  by_cases h1 : n = 0
  · by_cases h2 : 1000 < s.size
    · have HC := Lib.hid (chk_long (x := (k, n, s)) (by simp only; omega) h2)
      have h2' : (1000 : Int) < s.size := by omega
      subst h1
      clear h2
      rcases hk with rfl | rfl
      all_goals
        go_enter Try.func53, Try.ntmps53
        go_wp2
        go_ret
        exact ⟨rint HC.out.symm, hb1⟩
    · have HC := Lib.hid (chk_ok (x := (k, n, s)) (by simp only; omega) (by simp only; omega))
      have h2' : (s.size : Int) ≤ 1000 := by omega
      subst h1
      clear h2
      rcases hk with rfl | rfl
      all_goals
        go_enter Try.func53, Try.ntmps53
        go_wp2
        go_ret
        exact ⟨rint HC.out.symm, hb1⟩
  · have HC := Lib.hid (chk_bad (x := (k, n, s)) (by simp only; omega))
    have e := beq_no h1
    have e' := bne_yes h1
    clear h1
    rcases hk with rfl | rfl
    all_goals
      go_enter Try.func53, Try.ntmps53
      go_wp2
      go_ret
      exact ⟨rint HC.out.symm, hb1⟩
set_option maxRecDepth 100000 in
set_option maxHeartbeats 2000000 in
theorem refCheck_any (x : Val) (w : World) (hf : Fits x) :
    Calls Try.prog 53 #[valV x] w fun e w' => e = .returned (.int .i64 (chk x)) ∧ Below w.heap.size w w' := by
  obtain ⟨k, n, s⟩ := x
  obtain ⟨f1, f2, _, _⟩ := hf
  simp only at f1 f2
  by_cases k0 : k = 0
  · subst k0; exact refCheck0 n s w
  · by_cases k1 : k = 1
    · subst k1; exact refCheck1 n s w
    · by_cases k2 : k = 2 ∨ k = 3
      · exact refCheck23 k n s w k2
      · have HC := Lib.hid (chk_bad (x := (k, n, s)) (by simp only; omega))
        have hb1 : ∀ {o : Obj}, Below w.heap.size w (w.alloc o) := (Below.refl _ _).alloc (Nat.le_refl _) _
        have e4 : 3 < k := by omega
        clear k0 k1 k2 f1 f2
        go_enter Try.func53, Try.ntmps53
        go_wp2
        go_ret
        exact ⟨rint HC.out.symm, hb1⟩
end Go.Proofs.Ytkgpcodccpckeaa
