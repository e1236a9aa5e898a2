/- The document's own order of values. Conditions: those of each lemma. -/
import Derived.Test.YtfdiopjmohhejaaDoorKeyOrd2
namespace Go.Proofs.YtfdiopjmohhejaaDoor
open Go.RowKit
set_option linter.unusedVariables false
set_option maxRecDepth 100000 in
set_option maxHeartbeats 4000000 in
theorem compare_ne (p q p' q' : Int) (a b : ByteArray) (w : World) (hp : p ≠ p') (h0 : 0 ≤ p) (h1 : p ≤ 3) (h0' : 0 ≤ p') (h1' : p' ≤ 3) :
    Calls Tryd.prog 37 #[.agg #[.int .u8 p, .int .i64 q, .string a], .agg #[.int .u8 p', .int .i64 q', .string b]] w fun e w' => e = .returned (.int .i64 (cmpI p p')) ∧ Below w.heap.size w w' := by
  have hne : (p != p') = true := by rw [bne_iff_ne]; exact hp
  have hwa : IntKind.i64.wrap p = p := by simp [IntKind.wrap, IntKind.bits, IntKind.signed]; omega
  have hwb : IntKind.i64.wrap p' = p' := by simp [IntKind.wrap, IntKind.bits, IntKind.signed]; omega
  have HNU := Lib.hid numbers_any
  clear hp
  go_enter Tryd.func37, Tryd.ntmps37
  go_wp2_with fail
  refine (HNU.out _ _ _).mono ?_
  rintro e w3 ⟨rfl, rfl⟩
  go_wp2
  go_ret
  exact ⟨rfl, hb2⟩
set_option maxRecDepth 100000 in
set_option maxHeartbeats 4000000 in
theorem compare_0 (q q' : Int) (a b : ByteArray) (w : World) :
    Calls Tryd.prog 37 #[.agg #[.int .u8 0, .int .i64 q, .string a], .agg #[.int .u8 0, .int .i64 q', .string b]] w fun e w' => e = .returned (.int .i64 0) ∧ Below w.heap.size w w' := by
  go_enter Tryd.func37, Tryd.ntmps37
  go_wp2
  go_ret
  exact ⟨rfl, hb2⟩
set_option maxRecDepth 100000 in
set_option maxHeartbeats 4000000 in
theorem compare_1 (q q' : Int) (a b : ByteArray) (w : World) :
    Calls Tryd.prog 37 #[.agg #[.int .u8 1, .int .i64 q, .string a], .agg #[.int .u8 1, .int .i64 q', .string b]] w fun e w' => e = .returned (.int .i64 (cmpI q q')) ∧ Below w.heap.size w w' := by
  have HNU := Lib.hid numbers_any
  go_enter Tryd.func37, Tryd.ntmps37
  go_wp2_with fail
  refine (HNU.out _ _ _).mono ?_
  rintro e w3 ⟨rfl, rfl⟩
  go_wp2
  go_ret
  exact ⟨rfl, hb2⟩
set_option maxRecDepth 100000 in
set_option maxHeartbeats 4000000 in
theorem compare_23 (p q q' : Int) (a b : ByteArray) (w : World) (ha : a.size ≤ 1000) (hb : b.size ≤ 1000) (hp : p = 2 ∨ p = 3) :
    Calls Tryd.prog 37 #[.agg #[.int .u8 p, .int .i64 q, .string a], .agg #[.int .u8 p, .int .i64 q', .string b]] w fun e w' => e = .returned (.int .i64 (cmpL (bts a) (bts b))) ∧ Below w.heap.size w w' := by
  have HT := Lib.hid (fun W => texts_any a b W (by omega) (by omega))
  rcases hp with rfl | rfl
  all_goals
    go_enter Tryd.func37, Tryd.ntmps37
    go_wp2_with fail
    refine (HT.out _).mono ?_
    rintro e w3 ⟨rfl, hb3⟩
    go_wp2
    go_ret
    exact ⟨rfl, bjaa _ _ (Below.refl _ _) hb3⟩
theorem compare_any (x y : Val) (w : World) (hf : Fits x) (hc : chk x = 0) (hf' : Fits y) (hc' : chk y = 0) :
    Calls Tryd.prog 37 #[valV x, valV y] w fun e w' => e = .returned (.int .i64 (valCmp x y)) ∧ Below w.heap.size w w' := by
  obtain ⟨k1, k2, k3, k4⟩ := chk_of hc
  obtain ⟨k1', k2', k3', k4'⟩ := chk_of hc'
  obtain ⟨f1, f2, f3, f4⟩ := hf
  obtain ⟨f1', f2', f3', f4'⟩ := hf'
  obtain ⟨p, q, a⟩ := x
  obtain ⟨p', q', b⟩ := y
  simp only at *
  by_cases hp : p = p'
  · subst hp
    unfold valCmp
    simp only [ne_eq, not_true, ↓reduceIte]
    by_cases h0 : p = 0
    · subst h0; exact compare_0 q q' a b w
    · by_cases h1 : p = 1
      · subst h1; exact compare_1 q q' a b w
      · have h23 : p = 2 ∨ p = 3 := by omega
        rw [if_neg h1, if_pos h23]
        exact compare_23 p q q' a b w k4 k4' h23
  · unfold valCmp
    simp only [ne_eq, hp, not_false_eq_true, ↓reduceIte]
    exact compare_ne p q p' q' a b w hp f1 k1 f1' k1'
theorem rowCmp_len : ∀ (a b : List Val), (a = [] ∨ b = []) → rowCmp a b = cmpI a.length b.length
  | [], [], _ => rfl
  | [], _ :: _, _ => by simp [rowCmp, cmpI]; try omega
  | _ :: _, [], _ => by simp [rowCmp, cmpI]; try omega
  | _ :: _, _ :: _, h => by simp at h
end Go.Proofs.YtfdiopjmohhejaaDoor
