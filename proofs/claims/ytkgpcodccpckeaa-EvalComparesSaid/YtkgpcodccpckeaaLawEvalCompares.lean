/- The walk of EvalCompares. Conditions: the numbers fit their kinds. -/
import Derived.Test.YtkgpcodccpckeaaLawEvalCmp4
namespace Go.Proofs.Ytkgpcodccpckeaa
open Go.RowKit Go
set_option linter.unusedVariables false
set_option linter.unusedSimpArgs false
theorem fits_cmp {p q : Int} {s : ByteArray} (h1 : (Lit.int .u8 p).wf = true) (h2 : (Lit.int .i64 q).wf = true) : Fits (p, q, s) := by
  have e1 : IntKind.u8.min = 0 := rfl
  have e2 : IntKind.u8.max = 255 := rfl
  have e3 : IntKind.i64.min = -9223372036854775808 := rfl
  have e4 : IntKind.i64.max = 9223372036854775807 := rfl
  simp [Lit.wf, e1, e2] at h1
  simp [Lit.wf, e3, e4] at h2
  exact ⟨by simp only; omega, by simp only; omega, by simp only; omega, by simp only; omega⟩
set_option maxRecDepth 100000 in
set_option maxHeartbeats 8000000 in
theorem cmp_long (p q p' q' : Int) (s s' : ByteArray) (w : World) (h : 4096 < (s.size : Int) ∨ 4096 < (s'.size : Int)) :
    Calls Try.prog 9 #[.agg #[.int .u8 p, .int .i64 q, .string s], .agg #[.int .u8 p', .int .i64 q', .string s']] w fun e w' => e = .returned (.bool true) ∧ Below w.heap.size w w' := by
  have HS := Lib.hid (cb_new w (p, q, s) (p', q', s'))
  rcases h with h | h
  all_goals
    go_enter Try.func9, Try.ntmps9
    go_wp2_with fail
    refine (works15 _).mono ?_
    rintro e w2 ⟨rfl, hb2⟩
    have hs2 := cb_below HS.out hb2
    obtain ⟨ca0, ca1, ca2, cb0, cb1, cb2⟩ := cb_cells hs2
    have HS2 := Lib.hid hs2
    clear hs2 HS hb2
    go_upto_region 3 with fail
    go_cut [27] (fun s27 wx => s27 = .bool true ∧ wx = w2)
    case first =>
      go_wp2_with fail
      all_goals
        go_meet
        exact ⟨by simp [h], rfl⟩
    case rest =>
      obtain ⟨rfl, rfl⟩ := hcut
      go_wp2
      go_ret
      exact ⟨rfl, HS2.out.2.2⟩
set_option maxRecDepth 100000 in
set_option maxHeartbeats 8000000 in
theorem cmp_err (p q p' q' : Int) (s s' : ByteArray) (er : Int) (w : World) (la : (s.size : Int) ≤ 4096) (lb : (s'.size : Int) ≤ 4096) (her : er = 2 ∨ (er = 150 ∧ p ≠ p' ∧ p ≠ 0 ∧ p' ≠ 0))
    (hE : ∀ g W, Kids W W.heap.size (some ⟨g, 0, none⟩) [leafX (p, q, s), leafX (p', q', s')] → Calls Try.prog 15 #[.agg #[.int .u8 12, .int .u8 0, .int .i64 0, .string ⟨#[]⟩, .string ⟨#[]⟩, .string ⟨#[]⟩, .int .i64 0, .slice (some ⟨g, 0, none⟩) 2 2], .slice none 0 0] W fun e w' => e = .returned (.tuple #[.agg #[.int .u8 0, .int .i64 0, .string ⟨#[]⟩], .int .i64 er]) ∧ Below W.heap.size W w') :
    Calls Try.prog 9 #[.agg #[.int .u8 p, .int .i64 q, .string s], .agg #[.int .u8 p', .int .i64 q', .string s']] w fun e w' => e = .returned (.bool true) ∧ Below w.heap.size w w' := by
  have HW := Lib.hid (fun W (h : Cb w (p, q, s) (p', q', s') W) => (works15 W).mono fun e w' he => And.intro he.1 (cb_below h he.2))
  have HT := Lib.hid (fun W => two_any 12 (p, q, s) (p', q', s') W)
  have HE := Lib.hid hE
  have HS := Lib.hid (cb_new w (p, q, s) (p', q', s'))
  have HER := Lib.hid her
  clear hE her
  go_enter Try.func9, Try.ntmps9
  go_wp2_with fail
  refine (HW.out _ HS.out).mono ?_
  rintro e w2 ⟨rfl, hs2⟩
  obtain ⟨ca0, ca1, ca2, cb0, cb1, cb2⟩ := cb_cells hs2
  have HS2 := Lib.hid hs2
  clear hs2 HS
  go_wp2
  go_loopw [5, 6] (fun v i wr => i = .int .u8 12 ∧ v = .slice none 0 0 ∧ Cb w (p, q, s) (p', q', s') wr) (fun _ _ _ => 0)
  case atStart => exact ⟨rfl, rfl, HS2.out⟩
  case round =>
    obtain ⟨rfl, rfl, hy⟩ := hrel
    obtain ⟨ca0, ca1, ca2, cb0, cb1, cb2⟩ := cb_cells hy
    have HY := Lib.hid hy
    clear hy
    go_wp2_with fail
    refine (HT.out _).mono ?_
    rintro e w3 ⟨g3, rfl, hk3, hb3⟩
    have HY3 := Lib.hid (cb_below HY.out hb3)
    have HK3 := Lib.hid hk3
    clear hb3 hk3 HY
    go_wp2_with fail
    refine (HE.out _ _ HK3.out).mono ?_
    rintro e w4 ⟨rfl, hb4⟩
    have hy4 := cb_below HY3.out (bj hb4 (one_alloc (o := .cells #[.int .u8 0, .int .i64 0, .string ⟨#[]⟩] 23)))
    obtain ⟨da0, da1, da2, db0, db1, db2⟩ := cb_cells hy4
    have HY4 := Lib.hid hy4
    clear hb4 hy4 HY3 HK3
    rcases HER.out with rfl | ⟨rfl, n1, n2, n3⟩
    · go_wp2
      go_ret
      exact ⟨rfl, HY4.out.2.2⟩
    · have b1 : (p != p') = true := by simpa using n1
      have b2 : (p != 0) = true := by simpa using n2
      have b3 : (p' != 0) = true := by simpa using n3
      clear n1 n2 n3
      go_wp2
      go_ret
      exact ⟨rfl, HY4.out.2.2⟩
theorem evalCompares_walk (a0 b0 : Int) (c0 : ByteArray) (a1 b1 : Int) (c1 : ByteArray) (wa0 : (Lit.int .u8 a0).wf = true) (wb0 : (Lit.int .i64 b0).wf = true) (wc0 : c0.size ≤ 140737488351232) (wa1 : (Lit.int .u8 a1).wf = true) (wb1 : (Lit.int .i64 b1).wf = true) (wc1 : c1.size ≤ 140737488351232) (w : World) :
    Calls Try.prog 9 #[.agg #[.int .u8 a0, .int .i64 b0, .string c0], .agg #[.int .u8 a1, .int .i64 b1, .string c1]] w fun e w' => e = .returned (.bool true) ∧ Below w.heap.size w w' := by
  have f0 := fits_cmp (s := c0) wa0 wb0
  have f1 := fits_cmp (s := c1) wa1 wb1
  by_cases hl : 4096 < (c0.size : Int) ∨ 4096 < (c1.size : Int)
  · exact cmp_long a0 b0 a1 b1 c0 c1 w hl
  have l0 : c0.size ≤ 4096 := by omega
  have l1 : c1.size ≤ 4096 := by omega
  by_cases hc : chk (a0, b0, c0) = 0 ∧ chk (a1, b1, c1) = 0
  · by_cases hn : a0 = 0 ∨ a1 = 0
    · exact cmp_main a0 b0 a1 b1 c0 c1 (fun _ => (0, 0, ⟨#[]⟩)) 0 0 0 0 0 0 0 w f0 f1 hc.1 hc.2 l0 l1 (fun op rz h1 h2 => cmp_null op h1 h2 _ _ rz hn) rfl rfl rfl rfl rfl rfl (.inl ⟨rfl, rfl, rfl, rfl, rfl, rfl, rfl, hn⟩)
    · by_cases hk : a0 = a1
      · have hz : ∀ op rz, 12 ≤ op → op ≤ 17 → doZ op 2 (a0, b0, c0) (a1, b1, c1) rz = (truthV (holdsB op (valCmp (a0, b0, c0) (a1, b1, c1))), 0) := fun op rz h1 h2 => cmp_same op h1 h2 _ _ rz hk (fun e => hn (.inl e))
        rcases cmp_range (a0, b0, c0) (a1, b1, c1) with h | h | h
        all_goals rw [h] at hz
        · exact cmp_main a0 b0 a1 b1 c0 c1 (fun op => truthV (holdsB op (-1))) 1 0 1 1 0 0 1 w f0 f1 hc.1 hc.2 l0 l1 hz rfl rfl rfl rfl rfl rfl (.inr ⟨rfl, fun e => hn (.inl e), fun e => hn (.inr e), .inr (.inl ⟨rfl, rfl, rfl, rfl, rfl, rfl⟩)⟩)
        · exact cmp_main a0 b0 a1 b1 c0 c1 (fun op => truthV (holdsB op 0)) 1 1 0 0 1 0 1 w f0 f1 hc.1 hc.2 l0 l1 hz rfl rfl rfl rfl rfl rfl (.inr ⟨rfl, fun e => hn (.inl e), fun e => hn (.inr e), .inl ⟨rfl, rfl, rfl, rfl, rfl, rfl⟩⟩)
        · exact cmp_main a0 b0 a1 b1 c0 c1 (fun op => truthV (holdsB op 1)) 1 0 1 0 1 1 0 w f0 f1 hc.1 hc.2 l0 l1 hz rfl rfl rfl rfl rfl rfl (.inr ⟨rfl, fun e => hn (.inl e), fun e => hn (.inr e), .inr (.inr ⟨rfl, rfl, rfl, rfl, rfl, rfl⟩)⟩)
      · refine cmp_err a0 b0 a1 b1 c0 c1 150 w (by omega) (by omega) (.inr ⟨rfl, hk, fun e => hn (.inl e), fun e => hn (.inr e)⟩) (fun g W hkk => ?_)
        have h := eval_two 12 (a0, b0, c0) (a1, b1, c1) ((0, 0, ⟨#[]⟩), 0) g W (by omega) (by omega) (by omega) hkk f0 f1 hc.1 hc.2 (fun hcc => by
          have h5 := hcc.2.2.2.2
          unfold comparesB at h5
          simp at h5)
        rw [cmp_types 12 (by omega) (by omega) (a0, b0, c0) (a1, b1, c1) _ hk (fun e => hn (.inl e)) (fun e => hn (.inr e))] at h
        exact h
  · exact cmp_err a0 b0 a1 b1 c0 c1 2 w (by omega) (by omega) (.inl rfl) (fun g W hkk => eval_two_bad 12 _ _ g W (by omega) (by omega) hkk f0 f1 hc)
end Go.Proofs.Ytkgpcodccpckeaa
