/- The walk of EvalLogic. Conditions: the numbers fit their kinds. -/
import Derived.Test.YtkgpcodccpckeaaLawEvalLog
namespace Go.Proofs.Ytkgpcodccpckeaa
open Go.RowKit Go
set_option linter.unusedVariables false
set_option linter.unusedSimpArgs false
theorem str_nil {s : ByteArray} (h : s.toList = []) : s = ⟨#[]⟩ := by
  have h0 : s.size = 0 := by
    by_cases e : s.size = 0
    · exact e
    · exact absurd h (str_no e)
  obtain ⟨d⟩ := s
  have h1 : d.size = 0 := h0
  rw [Array.eq_empty_of_size_eq_zero h1]
theorem bz_of {p q : Int} {s : ByteArray} (h0 : 0 ≤ p) (h1 : p ≤ 1) (hs : s.toList = []) (h : p = 0 → q = 0) : Bz (p, q, s) := by
  rw [str_nil hs]
  by_cases e : p = 0
  · exact .inl (by rw [e, h e])
  · exact .inr ⟨q, by rw [show p = 1 by omega]⟩
theorem fits_log {p q : Int} {s : ByteArray} (h1 : (Lit.int .u8 p).wf = true) (h2 : (Lit.int .i64 q).wf = true) : Fits (p, q, s) := by
  have e1 : IntKind.u8.min = 0 := rfl
  have e2 : IntKind.u8.max = 255 := rfl
  have e3 : IntKind.i64.min = -9223372036854775808 := rfl
  have e4 : IntKind.i64.max = 9223372036854775807 := rfl
  simp [Lit.wf, e1, e2] at h1
  simp [Lit.wf, e3, e4] at h2
  exact ⟨by simp only; omega, by simp only; omega, by simp only; omega, by simp only; omega⟩
theorem bz_chk {v : Val} (h : Bz v) : chk v = 0 := by
  rcases h with rfl | ⟨q, rfl⟩
  · decide
  · have h0 : ((⟨#[]⟩ : ByteArray).size : Nat) = 0 := rfl
    unfold chk
    rw [if_neg (by
      rintro (h | h | h)
      · simp only at h; omega
      · exact h.1 rfl
      · exact h.2 h0), if_neg (by simp only [h0]; omega)]
set_option maxRecDepth 100000 in
set_option maxHeartbeats 8000000 in
theorem log_bad (p q p' q' : Int) (s s' : ByteArray) (w : World) (h : ¬ (Bz (p, q, s) ∧ Bz (p', q', s'))) (h0 : 0 ≤ p) (h0' : 0 ≤ p') :
    Calls Try.prog 8 #[.agg #[.int .u8 p, .int .i64 q, .string s], .agg #[.int .u8 p', .int .i64 q', .string s']] w fun e w' => e = .returned (.bool true) ∧ Below w.heap.size w w' := by
  have hs0 : Bs w (lb2 w.heap.size (p, q, s) (p', q', s')) [] ((w.alloc (.cells (valC (p, q, s)) 23)).alloc (.cells (valC (p', q', s')) 23)) :=
    bs_two ((Blk.new _ _ _).alloc _) (blk_new _ _ _ _ (by simp)) (bj bs_one bs_one)
  have HS0 := Lib.hid hs0
  have HH := Lib.hid h
  clear hs0 h
  go_enter Try.func8, Try.ntmps8
  go_wp2_with fail
  refine (works15 _).mono ?_
  rintro e w2 ⟨rfl, hb2⟩
  have hs2 := bs_below HS0.out hb2
  obtain ⟨ca0, ca1, ca2, cb0, cb1, cb2⟩ := ab_S hs2
  have HS2 := Lib.hid hs2
  clear hs2 HS0 hb2
  go_upto_region 3 with fail
  go_wp2_with fail
  all_goals first
    | (go_ret; exact ⟨rfl, HS2.out.2.2⟩)
    | (exfalso; exact HH.out ⟨bz_of h0 ‹p ≤ 1› ‹s.toList = []› (fun e => by first | assumption | omega | (simpa using ‹(q != 0) = false›)), bz_of h0' ‹p' ≤ 1› ‹s'.toList = []› (fun e => by first | assumption | omega | (simpa using ‹(q' != 0) = false›) | (simpa using ‹p ≤ 1 ∧ (q' != 0) = false›.2))⟩)
theorem evalLogic_walk (a0 b0 : Int) (c0 : ByteArray) (a1 b1 : Int) (c1 : ByteArray) (wa0 : (Lit.int .u8 a0).wf = true) (wb0 : (Lit.int .i64 b0).wf = true) (wc0 : c0.size ≤ 140737488351232) (wa1 : (Lit.int .u8 a1).wf = true) (wb1 : (Lit.int .i64 b1).wf = true) (wc1 : c1.size ≤ 140737488351232) (w : World) :
    Calls Try.prog 8 #[.agg #[.int .u8 a0, .int .i64 b0, .string c0], .agg #[.int .u8 a1, .int .i64 b1, .string c1]] w fun e w' => e = .returned (.bool true) ∧ Below w.heap.size w w' := by
  have f0 := fits_log (s := c0) wa0 wb0
  have f1 := fits_log (s := c1) wa1 wb1
  by_cases h : Bz (a0, b0, c0) ∧ Bz (a1, b1, c1)
  · obtain rfl : c0 = ⟨#[]⟩ := by
      rcases h.1 with e | ⟨q, e⟩
      · simp only [Prod.mk.injEq] at e; exact e.2.2
      · simp only [Prod.mk.injEq] at e; exact e.2.2
    obtain rfl : c1 = ⟨#[]⟩ := by
      rcases h.2 with e | ⟨q, e⟩
      · simp only [Prod.mk.injEq] at e; exact e.2.2
      · simp only [Prod.mk.injEq] at e; exact e.2.2
    exact log_main a0 b0 a1 b1 w h.1 h.2 f0 f1 (bz_chk h.1) (bz_chk h.2)
  · exact log_bad a0 b0 a1 b1 c0 c1 w h f0.1 f1.1
end Go.Proofs.Ytkgpcodccpckeaa
