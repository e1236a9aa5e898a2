/- Values and rows in memory; value.Check, and the document's own. Conditions: the numbers fit their kinds, a text is no longer than a machine has addresses. -/
import Derived.Test.YtocbdehcjcggeaaProg
import Derived.Test.YtocbdehcjcggeaaBase
import Derived.Test.YtocbdehcjcggeaaRecMath
import Derived.Outline
namespace Go.Proofs.Ytocbdehcjcggeaa
open Go.RowKit
set_option linter.unusedVariables false
abbrev valV (x : Val) : Value := .agg #[.int .u8 x.1, .int .i64 x.2.1, .string x.2.2]
abbrev valC (x : Val) : Array Value := #[.int .u8 x.1, .int .i64 x.2.1, .string x.2.2]
/-- a slice of values -/
def Vals (w : World) (B : Nat) (A : Option Addr) (l : List Val) : Prop :=
  l = [] ∨ ∃ b o, A = some ⟨b, o, none⟩ ∧ b < B ∧ ∀ (j : Nat) x, l[j]? = some x → w.cell? ⟨b, o + j * 3, none⟩ = some (.int .u8 x.1) ∧ w.cell? ⟨b, o + j * 3 + 1, none⟩ = some (.int .i64 x.2.1) ∧ w.cell? ⟨b, o + j * 3 + 2, none⟩ = some (.string x.2.2)
theorem vals_below {w w' : World} {B : Nat} {A : Option Addr} {l : List Val} (h : Vals w B A l) (hb : Below B w w') : Vals w' B A l := by
  rcases h with h | ⟨b, o, hA, hlt, hc⟩
  · exact .inl h
  · exact .inr ⟨b, o, hA, hlt, fun j x hx => ⟨(hb.cell (p := ⟨b, o + j * 3, none⟩) hlt).trans (hc j x hx).1, (hb.cell (p := ⟨b, o + j * 3 + 1, none⟩) hlt).trans (hc j x hx).2.1, (hb.cell (p := ⟨b, o + j * 3 + 2, none⟩) hlt).trans (hc j x hx).2.2⟩⟩
theorem vals_mono {w : World} {B B' : Nat} {A : Option Addr} {l : List Val} (h : Vals w B A l) (hB : B ≤ B') : Vals w B' A l := by
  rcases h with h | ⟨b, o, hA, hlt, hc⟩
  · exact .inl h
  · exact .inr ⟨b, o, hA, by omega, hc⟩
theorem vals_step {w w' : World} {A : Option Addr} {l : List Val} (h : Vals w w.heap.size A l) (hb : Below w.heap.size w w') : Vals w' w'.heap.size A l := vals_mono (vals_below h hb) hb.size
theorem vals_get {w : World} {B : Nat} {A : Option Addr} {l : List Val} (h : Vals w B A l) (hl : l ≠ []) : ∃ b o, A = some ⟨b, o, none⟩ ∧ b < B ∧ ∀ (j : Nat) x, l[j]? = some x → w.cell? ⟨b, o + j * 3, none⟩ = some (.int .u8 x.1) ∧ w.cell? ⟨b, o + j * 3 + 1, none⟩ = some (.int .i64 x.2.1) ∧ w.cell? ⟨b, o + j * 3 + 2, none⟩ = some (.string x.2.2) := by
  rcases h with h | h
  · exact absurd h hl
  · exact h
theorem beq_no {a b : Int} (h : ¬ a = b) : (a == b) = false := by simpa using h
theorem str_no {s : ByteArray} (h : s.size ≠ 0) : ¬ s.toList = [] := by
  intro e
  apply h
  have e2 : s = bstr [] := str_ext (by rw [e, ByteArray.toList_eq]; rfl)
  rw [e2]; rfl
theorem chk_bad {x : Val} (h : 3 < x.1 ∨ (x.1 ≠ 1 ∧ x.2.1 ≠ 0) ∨ (x.1 < 2 ∧ x.2.2.size ≠ 0)) : chk x = 2 := by unfold chk; rw [if_pos h]
theorem chk_long {x : Val} (h : ¬ (3 < x.1 ∨ (x.1 ≠ 1 ∧ x.2.1 ≠ 0) ∨ (x.1 < 2 ∧ x.2.2.size ≠ 0))) (h2 : 1000 < x.2.2.size) : chk x = 3 := by unfold chk; rw [if_neg h, if_pos h2]
theorem chk_ok {x : Val} (h : ¬ (3 < x.1 ∨ (x.1 ≠ 1 ∧ x.2.1 ≠ 0) ∨ (x.1 < 2 ∧ x.2.2.size ≠ 0))) (h2 : x.2.2.size ≤ 1000) : chk x = 0 := by unfold chk; rw [if_neg h, if_neg (by omega)]
theorem hb2 {w : World} {o q : Obj} : Below w.heap.size w ((w.alloc o).alloc q) := ((Below.refl _ _).alloc (Nat.le_refl _) _).alloc (by simp) _
set_option maxRecDepth 100000 in
set_option maxHeartbeats 2000000 in
theorem check_k0 (n : Int) (s : ByteArray) (w : World) :
    Calls Try.prog 74 #[valV (0, n, s)] w fun e w' => e = .returned (.int .i64 (chk (0, n, s))) ∧ Below w.heap.size w w' := by
  by_cases h1 : n = 0
  · by_cases h2 : s.size = 0
    · subst h1
      obtain rfl := empty_of h2
      have HC := Lib.hid (show chk (0, 0, bstr []) = 0 by decide)
      rw [show (bstr [] : ByteArray) = ⟨#[]⟩ from rfl] at *
      go_enter Try.func74, Try.ntmps74
      go_wp2
      go_ret
      exact ⟨rint HC.out.symm, hb2⟩
    · have HC := Lib.hid (chk_bad (x := (0, n, s)) (by simp only; omega))
      have e := str_no h2
      subst h1
      clear h2
      go_enter Try.func74, Try.ntmps74
      go_wp2
      go_ret
      exact ⟨rint HC.out.symm, hb2⟩
  · have HC := Lib.hid (chk_bad (x := (0, n, s)) (by simp only; omega))
    have e := beq_no h1
    clear h1
    go_enter Try.func74, Try.ntmps74
    go_wp2
    go_ret
    exact ⟨rint HC.out.symm, hb2⟩
set_option maxRecDepth 100000 in
set_option maxHeartbeats 2000000 in
theorem check_k1 (n : Int) (s : ByteArray) (w : World) :
    Calls Try.prog 74 #[valV (1, n, s)] w fun e w' => e = .returned (.int .i64 (chk (1, n, s))) ∧ Below w.heap.size w w' := by
  by_cases h2 : s.size = 0
  · obtain rfl := empty_of h2
    have HC := Lib.hid (chk_ok (x := (1, n, bstr [])) (by simp only; omega) (by simp only; omega))
    rw [show (bstr [] : ByteArray) = ⟨#[]⟩ from rfl] at *
    go_enter Try.func74, Try.ntmps74
    go_wp2
    go_ret
    exact ⟨rint HC.out.symm, hb2⟩
  · have HC := Lib.hid (chk_bad (x := (1, n, s)) (by simp only; omega))
    have e := str_no h2
    clear h2
    go_enter Try.func74, Try.ntmps74
    go_wp2
    go_ret
    exact ⟨rint HC.out.symm, hb2⟩
set_option maxRecDepth 100000 in
set_option maxHeartbeats 2000000 in
theorem check_k23 (k n : Int) (s : ByteArray) (w : World) (hk : k = 2 ∨ k = 3) :
    Calls Try.prog 74 #[valV (k, n, s)] w fun e w' => e = .returned (.int .i64 (chk (k, n, s))) ∧ Below w.heap.size w w' := by
  by_cases h1 : n = 0
  · by_cases h2 : 1000 < s.size
    · have HC := Lib.hid (chk_long (x := (k, n, s)) (by simp only; omega) h2)
      have h2' : (1000 : Int) < s.size := by omega
      subst h1
      clear h2
      rcases hk with rfl | rfl
      all_goals
        go_enter Try.func74, Try.ntmps74
        go_wp2
        go_ret
        exact ⟨rint HC.out.symm, hb2⟩
    · have HC := Lib.hid (chk_ok (x := (k, n, s)) (by simp only; omega) (by simp only; omega))
      have h2' : (s.size : Int) ≤ 1000 := by omega
      subst h1
      clear h2
      rcases hk with rfl | rfl
      all_goals
        go_enter Try.func74, Try.ntmps74
        go_wp2
        go_ret
        exact ⟨rint HC.out.symm, hb2⟩
  · have HC := Lib.hid (chk_bad (x := (k, n, s)) (by simp only; omega))
    have e := beq_no h1
    clear h1
    rcases hk with rfl | rfl
    all_goals
      go_enter Try.func74, Try.ntmps74
      go_wp2
      go_ret
      exact ⟨rint HC.out.symm, hb2⟩
set_option maxRecDepth 100000 in
set_option maxHeartbeats 2000000 in
theorem check_any (x : Val) (w : World) (hf : Fits x) :
    Calls Try.prog 74 #[valV x] w fun e w' => e = .returned (.int .i64 (chk x)) ∧ Below w.heap.size w w' := by
  obtain ⟨k, n, s⟩ := x
  obtain ⟨f1, f2, _, _⟩ := hf
  simp only at f1 f2
  by_cases k0 : k = 0
  · subst k0; exact check_k0 n s w
  · by_cases k1 : k = 1
    · subst k1; exact check_k1 n s w
    · by_cases k2 : k = 2 ∨ k = 3
      · exact check_k23 k n s w k2
      · have HC := Lib.hid (chk_bad (x := (k, n, s)) (by simp only; omega))
        have e0 := beq_no k0
        have e1 := beq_no k1
        have e2 := beq_no (a := k) (b := 2) (by omega)
        have e3 := beq_no (a := k) (b := 3) (by omega)
        clear k0 k1 k2 f1 f2
        go_enter Try.func74, Try.ntmps74
        go_wp2
        go_ret
        exact ⟨rint HC.out.symm, hb2⟩
end Go.Proofs.Ytocbdehcjcggeaa
