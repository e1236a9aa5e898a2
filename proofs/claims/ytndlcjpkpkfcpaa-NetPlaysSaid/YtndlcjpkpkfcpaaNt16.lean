/- ref25's Spoil, what it refuses. Conditions: those of each lemma. -/
import Derived.Test.YtndlcjpkpkfcpaaNt15
import Derived.Test.YtndlcjpkpkfcpaaWords
namespace Go.Proofs.Ytndlcjpkpkfcpaa
open Go.RowKit Go Go.Maps
set_option linter.unusedVariables false
set_option linter.unusedSimpArgs false
set_option maxRecDepth 100000 in
set_option maxHeartbeats 2000000 in
theorem rspoil_none (k at_ y : Int) (gr base : Nat) (L : List Lt) (N : Int) (w : World) (hs : RefS gr base L N w) (hl : L.length ≤ 64) (hf : findL L k = none) :
    Calls Try.prog 19 #[.pointer (some ⟨gr, 0, none⟩), .int .i64 k, .int .i64 at_, .int .u8 y] w fun e w' => e = .returned (.int .i64 4) ∧ Below w.heap.size w w' := by
  have HF := Lib.hid (at_below gr base L N k _ hs hl _ (at_none L 0 hf))
  clear hs hf hl
  go_enter Try.func19, Try.ntmps19
  go_wp2_with fail
  refine HF.out.mono ?_
  rintro e w2 ⟨rfl, hb2⟩
  have HB := Lib.hid hb2
  clear hb2
  go_wp2
  go_ret
  exact ⟨rfl, HB.out⟩
set_option maxRecDepth 100000 in
set_option maxHeartbeats 4000000 in
theorem rspoil_err (k at_ y : Int) (gr base : Nat) (L : List Lt) (N : Int) (w : World) (hs : RefS gr base L N w) (hl : L.length ≤ 64) (x : Lt) (hf : findL L k = some x) (E : Int) (hE : spoilE x at_ y = E) (h0 : E ≠ 0) :
    Calls Try.prog 19 #[.pointer (some ⟨gr, 0, none⟩), .int .i64 k, .int .i64 at_, .int .u8 y] w fun e w' => e = .returned (.int .i64 E) ∧ Below w.heap.size w w' := by
  obtain ⟨j, hj, hx⟩ := at_some L 0 hf
  rw [Nat.zero_add] at hj
  have HF := Lib.hid (at_below gr base L N k _ hs hl _ hj)
  have hjl : j < L.length := (List.getElem?_eq_some_iff.1 hx).1
  have hjI : (j : Int) < L.length := by omega
  have hlI : (L.length : Int) ≤ 64 := by omega
  have HX := Lib.hid hx
  have HS := Lib.hid hs
  obtain ⟨i, f, t, b, s⟩ := x
  unfold spoilE at hE
  clear hs hl hf hj hx
  have key : (s = true ∧ E = 9) ∨ (s = false ∧ at_ < 0 ∧ E = 5) ∨ (s = false ∧ decide (at_ < 0) = false ∧ (b.size : Int) ≤ at_ ∧ E = 5) ∨ (s = false ∧ decide (at_ < 0) = false ∧ decide ((b.size : Int) ≤ at_) = false ∧ y = 0 ∧ E = 2) := by
    cases s
    · right
      rw [if_neg (by simp)] at hE
      by_cases h1 : at_ < 0
      · exact .inl ⟨rfl, h1, by rw [if_pos (.inl h1)] at hE; exact hE.symm⟩
      · by_cases h2 : (b.size : Int) ≤ at_
        · exact .inr (.inl ⟨rfl, decide_eq_false h1, h2, by rw [if_pos (.inr h2)] at hE; exact hE.symm⟩)
        · rw [if_neg (by rintro (h | h); exact h1 h; exact h2 h)] at hE
          by_cases h3 : y = 0
          · exact .inr (.inr ⟨rfl, decide_eq_false h1, decide_eq_false h2, h3, by rw [if_pos h3] at hE; exact hE.symm⟩)
          · rw [if_neg h3] at hE; exact absurd hE.symm h0
    · exact .inl ⟨rfl, by simpa using hE.symm⟩
  clear hE h0
  rcases key with ⟨rfl, rfl⟩ | ⟨rfl, k1, rfl⟩ | ⟨rfl, k1, k2, rfl⟩ | ⟨rfl, k1, k2, rfl, rfl⟩
  all_goals
    go_enter Try.func19, Try.ntmps19
    go_wp2_with fail
    refine HF.out.mono ?_
    rintro e w2 ⟨rfl, hb2⟩
    have HB := Lib.hid hb2
    obtain ⟨g, o, c, c0, b0, b1, b2, b3, b4⟩ := ref_at (ref_step HS.out hb2) HX.out
    simp only at b0 b1 b2 b3 b4
    clear hb2
    go_wp2
    go_ret
    exact ⟨rfl, bj HB.out one_alloc⟩
end Go.Proofs.Ytndlcjpkpkfcpaa
