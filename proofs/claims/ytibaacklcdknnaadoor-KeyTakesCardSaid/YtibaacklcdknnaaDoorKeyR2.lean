/- The document's own Check and Put of keys. Conditions: the numbers fit their kinds, the row has no more than a thousand values. -/
import Derived.Test.YtibaacklcdknnaaDoorProg
import Derived.Test.YtibaacklcdknnaaDoorKeyR1
import Derived.Test.YtibaacklcdknnaaDoorVal
namespace Go.Proofs.YtibaacklcdknnaaDoor
open Go.RowKit
set_option linter.unusedVariables false
theorem str_em {s : ByteArray} (h : s.size ≠ 0) : s.toList.isEmpty = false := by
  have := str_no h
  cases hh : s.toList with
  | nil => exact absurd hh this
  | cons a l => rfl
theorem bne_yes {a b : Int} (h : ¬ a = b) : (a != b) = true := by rw [bne_iff_ne]; exact h
set_option maxRecDepth 100000 in
set_option maxHeartbeats 2000000 in
theorem refCheck0 (n : Int) (s : ByteArray) (w : World) :
    Calls Tryd.prog 15 #[valV (0, n, s)] w fun e w' => e = .returned (.int .i64 (chk (0, n, s))) ∧ Below w.heap.size w w' := by
  have hb1 : ∀ {o : Obj}, Below w.heap.size w (w.alloc o) := (Below.refl _ _).alloc (Nat.le_refl _) _
  by_cases h1 : n = 0
  · by_cases h2 : s.size = 0
    · subst h1
      obtain rfl := empty_of h2
      have HC := Lib.hid (show chk (0, 0, bstr []) = 0 by decide)
      rw [show (bstr [] : ByteArray) = ⟨#[]⟩ from rfl] at *
      go_enter Tryd.func15, Tryd.ntmps15
      go_wp2
      go_ret
      exact ⟨rint HC.out.symm, hb1⟩
    · have HC := Lib.hid (chk_bad (x := (0, n, s)) (by simp only; omega))
      have e := str_no h2
      have e' := str_em h2
      subst h1
      clear h2
      go_enter Tryd.func15, Tryd.ntmps15
      go_wp2
      go_ret
      exact ⟨rint HC.out.symm, hb1⟩
  · have HC := Lib.hid (chk_bad (x := (0, n, s)) (by simp only; omega))
    have e := beq_no h1
    have e' := bne_yes h1
    clear h1
    go_enter Tryd.func15, Tryd.ntmps15
    go_wp2
    go_ret
    exact ⟨rint HC.out.symm, hb1⟩
set_option maxRecDepth 100000 in
set_option maxHeartbeats 2000000 in
theorem refCheck1 (n : Int) (s : ByteArray) (w : World) :
    Calls Tryd.prog 15 #[valV (1, n, s)] w fun e w' => e = .returned (.int .i64 (chk (1, n, s))) ∧ Below w.heap.size w w' := by
  have hb1 : ∀ {o : Obj}, Below w.heap.size w (w.alloc o) := (Below.refl _ _).alloc (Nat.le_refl _) _
  by_cases h2 : s.size = 0
  · obtain rfl := empty_of h2
    have HC := Lib.hid (chk_ok (x := (1, n, bstr [])) (by simp only; omega) (by simp only; omega))
    rw [show (bstr [] : ByteArray) = ⟨#[]⟩ from rfl] at *
    go_enter Tryd.func15, Tryd.ntmps15
    go_wp2
    go_ret
    exact ⟨rint HC.out.symm, hb1⟩
  · have HC := Lib.hid (chk_bad (x := (1, n, s)) (by simp only; omega))
    have e := str_no h2
    have e' := str_em h2
    clear h2
    go_enter Tryd.func15, Tryd.ntmps15
    go_wp2
    go_ret
    exact ⟨rint HC.out.symm, hb1⟩
set_option maxRecDepth 100000 in
set_option maxHeartbeats 2000000 in
theorem refCheck23 (k n : Int) (s : ByteArray) (w : World) (hk : k = 2 ∨ k = 3) :
    Calls Tryd.prog 15 #[valV (k, n, s)] w fun e w' => e = .returned (.int .i64 (chk (k, n, s))) ∧ Below w.heap.size w w' := by
  have hb1 : ∀ {o : Obj}, Below w.heap.size w (w.alloc o) := (Below.refl _ _).alloc (Nat.le_refl _) _
  by_cases h1 : n = 0
  · by_cases h2 : 1000 < s.size
    · have HC := Lib.hid (chk_long (x := (k, n, s)) (by simp only; omega) h2)
      have h2' : (1000 : Int) < s.size := by omega
      subst h1
      clear h2
      rcases hk with rfl | rfl
      all_goals
        go_enter Tryd.func15, Tryd.ntmps15
        go_wp2
        go_ret
        exact ⟨rint HC.out.symm, hb1⟩
    · have HC := Lib.hid (chk_ok (x := (k, n, s)) (by simp only; omega) (by simp only; omega))
      have h2' : (s.size : Int) ≤ 1000 := by omega
      subst h1
      clear h2
      rcases hk with rfl | rfl
      all_goals
        go_enter Tryd.func15, Tryd.ntmps15
        go_wp2
        go_ret
        exact ⟨rint HC.out.symm, hb1⟩
  · have HC := Lib.hid (chk_bad (x := (k, n, s)) (by simp only; omega))
    have e := beq_no h1
    have e' := bne_yes h1
    clear h1
    rcases hk with rfl | rfl
    all_goals
      go_enter Tryd.func15, Tryd.ntmps15
      go_wp2
      go_ret
      exact ⟨rint HC.out.symm, hb1⟩
set_option maxRecDepth 100000 in
set_option maxHeartbeats 2000000 in
theorem refCheck_any (x : Val) (w : World) (hf : Fits x) :
    Calls Tryd.prog 15 #[valV x] w fun e w' => e = .returned (.int .i64 (chk x)) ∧ Below w.heap.size w w' := by
  obtain ⟨k, n, s⟩ := x
  obtain ⟨f1, f2, _, _⟩ := hf
  simp only at f1 f2
  by_cases k0 : k = 0
  · subst k0; exact refCheck0 n s w
  · by_cases k1 : k = 1
    · subst k1; exact refCheck1 n s w
    · by_cases k2 : k = 2 ∨ k = 3
      · exact refCheck23 k n s w k2
      · have HC := Lib.hid (chk_bad (x := (k, n, s)) (by simp only; omega))
        have hb1 : ∀ {o : Obj}, Below w.heap.size w (w.alloc o) := (Below.refl _ _).alloc (Nat.le_refl _) _
        have e4 : 3 < k := by omega
        clear k0 k1 k2 f1 f2
        go_enter Tryd.func15, Tryd.ntmps15
        go_wp2
        go_ret
        exact ⟨rint HC.out.symm, hb1⟩
theorem oneK_lt {x : Val} (h0 : 0 ≤ x.1) (h : x.1 ≤ 3) : ∀ y ∈ oneK x, y < 256 := by
  intro y hy
  unfold oneK at hy
  split at hy
  · simp at hy; omega
  · split at hy
    · rcases List.mem_cons.1 hy with rfl | hy
      · omega
      · exact eightL_lt _ y hy
    · rcases List.mem_cons.1 hy with rfl | hy
      · omega
      · rcases List.mem_append.1 hy with hy | hy
        · exact escL_lt (bts_lt _) y hy
        · simp at hy; omega
theorem refOne_any (x : Val) (w : World) (hf : Fits x) (hc : chk x = 0) : Calls Tryd.prog 16 #[valV x] w fun e w' => e = .returned (.string (bstr (oneK x))) ∧ Below w.heap.size w w' := by
  obtain ⟨k1, k2, k3, k4⟩ := chk_of hc
  obtain ⟨p, q, s⟩ := x
  obtain ⟨f1, f2, f3, f4⟩ := hf
  simp only at k1 k2 k3 k4 f1 f2 f3 f4
  by_cases p0 : p = 0
  · subst p0
    exact refOne_0 s q w
  · by_cases p1 : p = 1
    · subst p1
      exact refOne_1 s q w f3 f4
    · have h := refOne_23 s p q w k4 (by omega)
      unfold oneK
      simp only
      rw [if_neg p0, if_neg p1]
      exact h
end Go.Proofs.YtibaacklcdknnaaDoor
