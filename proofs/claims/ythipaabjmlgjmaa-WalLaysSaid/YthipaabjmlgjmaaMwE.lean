/- Layer 5: Append, Page. Conditions: those of each lemma. -/
import Derived.Test.YthipaabjmlgjmaaMwD
namespace Go.Proofs.Ythipaabjmlgjmaa
open Go.RowKit Go Go.Maps
set_option linter.unusedVariables false
set_option linter.unusedSimpArgs false
/-- the steps of an Append -/
def appS (l : Lg) (pages : Nat) (ims : List Im) : List Sp :=
  [.wr 1 (1 + (l.fs.length : Nat) * 9) (bstr (wputL l.N l.e (mkFs pages ims))), .sy, .lay (bstr (headL l.N (l.fs.length + ims.length) pages)), .sy]
/-- the log behind an Append that is done -/
def appL (l : Lg) (pages : Nat) (ims : List Im) (k : Lg) : Lg :=
  { N := l.N, F := l.fs.length + ims.length, P := pages, hd := true, fs := k.fs ++ mkFs pages ims, e := wputE l.N l.e (mkFs pages ims), torn := k.torn, off := k.off }
/-- what Append does, and what it answers -/
def appD (pages : Int) (ims : List Im) (d : Dk) (l : Lg) : (Dk × Lg) × Int :=
  if mayA pages ims = false then ((d, l), 2) else if 256 < l.fs.length + ims.length then ((d, l), 8)
  else if (doneD (appS l pages.toNat ims) d l).2 ≠ 0 then doneD (appS l pages.toNat ims) d l
  else (((doneD (appS l pages.toNat ims) d l).1.1, appL l pages.toNat ims (doneD (appS l pages.toNat ims) d l).1.2), 0)
theorem mayA_ok {pages : Int} {l : List Im} (h : mayA pages l = true) : 1 ≤ pages ∧ pages ≤ 256 ∧ 0 < l.length ∧ l.any imBad = false := by
  unfold mayA at h
  simp only [Bool.and_eq_true, Bool.not_eq_true', Bool.or_eq_false_iff, decide_eq_false_iff_not] at h
  exact ⟨by omega, by omega, by omega, h.2⟩
theorem spD_fs : ∀ (sp : Sp) (d : Dk) (l : Lg), (spD sp d l).1.2.fs = l.fs ∧ (spD sp d l).1.2.N = l.N ∧ (spD sp d l).1.2.F = l.F ∧ (spD sp d l).1.2.P = l.P ∧ (spD sp d l).1.2.hd = l.hd ∧ (spD sp d l).1.2.e = l.e
  | .wr f a s, d, l => ⟨rfl, rfl, rfl, rfl, rfl, rfl⟩
  | .sy, d, l => ⟨rfl, rfl, rfl, rfl, rfl, rfl⟩
  | .lay s, d, l => ⟨rfl, rfl, rfl, rfl, rfl, rfl⟩
  | .cut, d, l => by by_cases hc : (l.P : Int) * 8 < sizeD d 0 <;> simp [spD, hc]
  | .sm, d, l => ⟨rfl, rfl, rfl, rfl, rfl, rfl⟩
theorem doneD_fs : ∀ (sps : List Sp) (d : Dk) (l : Lg), (doneD sps d l).1.2.fs = l.fs ∧ (doneD sps d l).1.2.N = l.N ∧ (doneD sps d l).1.2.F = l.F ∧ (doneD sps d l).1.2.P = l.P ∧ (doneD sps d l).1.2.hd = l.hd ∧ (doneD sps d l).1.2.e = l.e
  | [], d, l => ⟨rfl, rfl, rfl, rfl, rfl, rfl⟩
  | sp :: r, d, l => by
    have h := spD_fs sp d l
    rw [doneD]
    split
    · have h2 := doneD_fs r (spD sp d l).1.1 (spD sp d l).1.2
      exact ⟨h2.1.trans h.1, h2.2.1.trans h.2.1, h2.2.2.1.trans h.2.2.1, h2.2.2.2.1.trans h.2.2.2.1, h2.2.2.2.2.1.trans h.2.2.2.2.1, h2.2.2.2.2.2.trans h.2.2.2.2.2⟩
    · exact h
theorem sps_own {W : World} {S : Nat → Prop} {q base n c : Nat} {e : TypeId} {A : Option Addr} {vs : List Value} {sps : List Sp} (h : W.ownsRow base e 1 (.slice A n c) n vs) (hb : ∀ b, S b → b < base) (hv : ∀ (j : Nat) sp, sps[j]? = some sp → ∃ v, vs[j]? = some v ∧ SpV W S q sp v) : SpsAt W S q A sps := by
  rcases h.2 with ⟨hv0, h0⟩ | ⟨g, cap, cur, hv0, hbg, hg, hnc, hcm, hcs, htk⟩
  · have h1 := h.1
    rw [h0] at h1
    have hvs : vs = [] := List.eq_nil_of_length_eq_zero (by omega)
    cases sps with
    | nil => exact .inl rfl
    | cons sp r =>
      obtain ⟨v, h2, _⟩ := hv 0 sp rfl
      rw [hvs] at h2
      cases h2
  · simp only [Value.slice.injEq] at hv0
    obtain ⟨rfl, _, rfl⟩ := hv0
    refine .inr ⟨g, 0, e, cur, rfl, fun hS => by have := hb g hS; omega, hg, fun j sp hj => ?_⟩
    obtain ⟨v, h2, h3⟩ := hv j sp hj
    refine ⟨v, ?_, h3⟩
    rw [← htk, List.getElem?_take] at h2
    split at h2
    · rw [Nat.zero_add, ← Array.getElem?_toList]; exact h2
    · cases h2
theorem st_info : (Try.prog.info? 86).map (fun i => (i.zero, i.size, i.bytes)) = some (some (.nilFunc), 1, 8) := by kernel_rfl
set_option maxRecDepth 100000 in
set_option maxHeartbeats 32000000 in
theorem append_any {S : Nat → Prop} {g q : Nat} {d : Dk} {N : Nat} {l : Lg} {w : World} (h : LgS w S g q d N l) (hoff : l.off = false) (ht : l.torn = false) (pages : Int) (A : Option Addr) (n c : Nat) (ims : List Im) (hO : ImAt w A ims) (hn : n = ims.length) (hsm : n ≤ 100000) (hz : ∀ x ∈ ims, x.dt.size ≤ 9223372036854775807) (hN : N + 4 ≤ 1000000) :
    Calls Try.prog 14 #[lp q, .int .i64 pages, .slice A n c] w fun e w' => e = .returned (.int .i64 (appD pages ims d l).2) ∧ LgR w S g q (appD pages ims d l).1.1 (N + 4) (appD pages ims d l).1.2 w' := by
  have HM := Lib.hid (wmayBe_any pages A n c ims w hO hn hsm hz)
  have HO := Lib.hid hO
  have HN := Lib.hid hn
  have HS0 := Lib.hid h
  have HUP := Lib.hid (lgS_to h 4 hN)
  have HT := Lib.hid ht
  obtain ⟨Sd0, A0, c0, h0⟩ := h
  have hfl : l.fs.length ≤ 256 := h0.ub.2.2.2
  obtain ⟨nf, hnf⟩ : ∃ nf, nf = l.fs.length := ⟨_, rfl⟩
  rw [← hnf] at hfl
  obtain ⟨-, -, -, -, -, -, -, -, -, d9⟩ := lg_cells h0
  rw [hoff] at d9
  have hnI : (n : Int) ≤ 100000 := by omega
  have hnfI : (nf : Int) ≤ 256 := by omega
  have HNF := Lib.hid hnf
  have HFB := Lib.hid hfl
  clear hO hn hz h0 hoff ht hnf hfl
  obtain ⟨RR, hRR⟩ : ∃ RR, appD pages ims d l = RR := ⟨_, rfl⟩
  rw [hRR]
  have HRR := Lib.hid hRR
  clear hRR
  go_enter Try.func14, Try.ntmps14
  go_wp2_with fail
  refine (HM.out).mono ?_
  rintro e w1 ⟨rfl, hb1⟩
  have HB1 := Lib.hid hb1
  clear hb1 d9 HM
  cases hmay : mayA pages ims with
  | false =>
    obtain rfl : RR = ((d, l), 2) := by rw [← HRR.out, appD, if_pos hmay]
    clear hmay HRR
    go_wp2
    go_ret
    exact ⟨rfl, lgR_below (lgR_refl HUP.out) HB1.out⟩
  | true =>
  have HMAY := Lib.hid (mayA_ok hmay)
  have hRR := HRR.out
  rw [appD, if_neg (by rw [hmay]; decide)] at hRR
  clear HRR
  clear hmay
  obtain ⟨Sd, A1, c1, h1⟩ := lgS_below HS0.out HB1.out
  obtain ⟨-, d1, -, -, -, d5, -⟩ := lg_cells h1
  rw [← HNF.out] at d5
  have H1 := Lib.hid h1
  clear h1 d1
  by_cases hgt : 256 < nf + n
  · have hgtI : (256 : Int) < (nf : Int) + n := by omega
    have hw1 : IntKind.i64.wrap ((nf : Int) + n) = (nf : Int) + n := by rw [IntKind.wrap_i64]; omega
    rw [if_pos (by rw [← HNF.out, ← HN.out]; exact hgt)] at hRR
    subst hRR
    go_wp2
    go_ret
    exact ⟨rfl, lgR_below (lgR_refl HUP.out) HB1.out⟩
  have hgtI : ¬ ((256 : Int) < (nf : Int) + n) := by omega
  have hw1 : IntKind.i64.wrap ((nf : Int) + n) = (nf : Int) + n := by rw [IntKind.wrap_i64]; omega
  rw [if_neg (by rw [← HNF.out, ← HN.out]; exact hgt)] at hRR
  obtain ⟨pg, rfl⟩ : ∃ pg : Nat, pages = pg := ⟨pages.toNat, by have := HMAY.out.1; omega⟩
  have e0 : ((pg : Int)).toNat = pg := rfl
  rw [e0] at hRR
  clear e0
  have hpgN : pg ≤ 256 := by have := HMAY.out.2.1; omega
  have HPUT := Lib.hid (wput_any ⟨Sd, A1, c1, H1.out⟩ pg A n c ims (imAt_below HO.out HB1.out) HN.out (by have := HMAY.out.2.2.1; have := HN.out; omega) (by omega) hpgN HMAY.out.2.2.2)
  obtain ⟨DD, hDD⟩ : ∃ DD, doneD (appS l pg ims) d l = DD := ⟨_, rfl⟩
  rw [hDD] at hRR
  have HRR := Lib.hid hRR
  clear hRR
  have HDD := Lib.hid hDD
  obtain ⟨T, hT⟩ : ∃ T, bstr (wputL l.N l.e (mkFs pg ims)) = T := ⟨_, rfl⟩
  obtain ⟨E, hE⟩ : ∃ E, wputE l.N l.e (mkFs pg ims) = E := ⟨_, rfl⟩
  obtain ⟨fs, hfs⟩ : ∃ fs, mkFs pg ims = fs := ⟨_, rfl⟩
  have HFS := Lib.hid hfs
  have HFL := Lib.hid (show fs.length = n from by rw [← hfs, mkFs_length, HN.out])
  have HFO := Lib.hid (show ∀ x ∈ fs, FxOk x from by rw [← hfs]; exact mkFs_ok hpgN HMAY.out.2.2.2)
  have HEF := Lib.hid (show Fit E from by rw [← hE]; exact fit_wputE _ _ _ H1.out.fit)
  have HTS := Lib.hid (show T.size ≤ 140737488351232 from by rw [← hT, bstr_size, wputL_len _ _ _ (by rw [hfs]; exact HFO.out), hfs, HFL.out]; omega)
  have HAS := Lib.hid (show appS l pg ims = [.wr 1 (1 + (nf : Nat) * 9) T, .sy, .lay (bstr (headL l.N (nf + n) pg)), .sy] from by unfold appS; rw [hT, ← HNF.out, ← HN.out])
  have HAL := Lib.hid (show ∀ k, appL l pg ims k = { N := l.N, F := nf + n, P := pg, hd := true, fs := k.fs ++ fs, e := E, torn := k.torn, off := k.off } from fun k => by unfold appL; rw [hE, hfs, ← HNF.out, ← HN.out])
  rw [hT, hE] at HPUT
  rw [hfs] at HPUT
  clear hDD hT hE hfs HUP hgt
  obtain ⟨E1, E2⟩ := E
  go_wp2_with fail
  refine (HPUT.out).mono ?_
  rintro e w2 ⟨A2, c2, rfl, hown2, hb2⟩
  simp only
  have HB2 := Lib.hid (bj HB1.out hb2)
  have hs2 : w1.heap.size ≤ w2.heap.size := hb2.size
  have H2 := Lib.hid (lgAt_below H1.out hb2)
  have HO2 := Lib.hid hown2
  have HW1 := Lib.hid (show w.heap.size ≤ w1.heap.size from HB1.out.size)
  have HLFS := Lib.hid (doneD_fs (appS l pg ims) d l).1
  rw [HDD.out] at HLFS
  clear hown2 hb2 HPUT d5 HO HB1 H1
  have HK9 := Lib.hid (Blk.new w2 73 #[.int .u32 E1, .int .u32 E2])
  go_wp2_with fail
  generalize hW3 : w2.alloc (.cells #[.int .u32 E1, .int .u32 E2] 73) = W3 at *
  have hb3 : Below w2.heap.size w2 W3 := by rw [← hW3]; exact allocB
  have H3 := Lib.hid (lgAt_below H2.out hb3)
  have HO3 := Lib.hid (own_lies HO2.out hb3)
  have HB3 := Lib.hid (bj HB2.out hb3)
  have HQ9 := Lib.hid (show w.heap.size ≤ w2.heap.size from HB2.out.size)
  clear hb3 hW3 H2 HO2 HB2 hs2
  obtain ⟨n0, hn0⟩ : ∃ n0, n0 = l.N := ⟨_, rfl⟩
  have HL0 := Lib.hid hn0
  clear hn0
  have HC3 := Lib.hid (show ∀ W, Below W3.heap.size W3 W → W.cell? ⟨q, 1, none⟩ = some (.int .u64 n0) ∧ W.cell? ⟨q, 5, none⟩ = some (.slice A1 nf c1) from fun W hb => by
    obtain ⟨-, x1, -, -, -, x5, -⟩ := lg_cells (lgAt_below H3.out hb)
    rw [← HNF.out] at x5
    rw [← HL0.out] at x1
    exact ⟨x1, x5⟩)
  refine wp_region_noPanic ?_
  refine wp_region_any (by kernel_rfl) ?_
  refine facts_sw [0, 1, 2, 3, 4, 5, 6, 7, 8, 9, 10, 11, 12, 13, 14, 15] (fun i => match i with | 1 => [0] | 2 => [1] | 3 => [2] | 4 => [3] | 6 => [5] | 7 => [6] | 8 => [7] | 9 => [8] | 11 => [10] | 12 => [9, 11] | 14 => [4, 12, 13] | _ => []) 99 99 (fun i v W => match i with | 0 => v = lp q | 1 => v = lp q | 2 => v = .pointer (some ⟨q, 1, none⟩) | 3 => v = .pointer (some ⟨q, 1, none⟩) | 4 => v = .int .u64 n0 | 5 => v = lp q | 6 => v = lp q | 7 => v = .pointer (some ⟨q, 5, none⟩) | 8 => v = .slice A1 nf c1 | 9 => v = .int .i64 (nf : Int) | 10 => v = .slice A2 n c2 | 11 => v = .int .i64 (n : Int) | 12 => v = .int .i64 ((nf : Int) + n) | 13 => v = .int .i64 (pg : Int) | 14 => v = .agg #[.int .u64 n0, .int .i64 ((nf : Int) + n), .int .i64 (pg : Int)] | 15 => ∃ k, v = .pointer (some ⟨k, 0, none⟩) ∧ W3.heap.size ≤ k ∧ Blk W k 45 #[.int .u64 0, .int .i64 0, .int .i64 0] | _ => True) (fun W W' => Below W.heap.size W W') (fun _ _ W => Below W3.heap.size W3 W) _ _ _ 1 _ #[true, true, true, true, true, true, true, true, true, true, true, true, true, true, true, true, false] (fun i v W W' h hs => match i, h with | 0, h => h | 1, h => h | 2, h => h | 3, h => h | 4, h => h | 5, h => h | 6, h => h | 7, h => h | 8, h => h | 9, h => h | 10, h => h | 11, h => h | 12, h => h | 13, h => h | 14, h => h | 15, ⟨k, h1, h2, h3⟩ => ⟨k, h1, h2, blk_step h3 hs⟩ | 16, h => h | _ + 17, h => h) (by kernel_rfl) (by rfl) (Below.refl _ _).drew ?hstep ?hend
  case hstep =>
    intro i hi b_ c_ hbp hcq hbd hcd x W hd hI K hK
    obtain ⟨z1, z5⟩ := HC3.out W hI
    simp only [List.mem_cons, List.not_mem_nil, or_false] at hi
    rcases hi with rfl | rfl | rfl | rfl | rfl | rfl | rfl | rfl | rfl | rfl | rfl | rfl | rfl | rfl | rfl | rfl
    · generalize hA : putsA _ _ x [0, 1, 2, 3, 4, 5, 6, 7, 8, 9, 10, 11, 12, 13, 14, 15] = A_ at *
      have e0 : A_.tmps[0]? = some (lp q) := by rw [← hA]; exact putsA_at 0 _ (by decide +kernel)
      clear hA hd
      refine wpOp_step rfl (fun K' hK' => ?_)
      go_simp
      exact hK' _ _ (hK _ _ rfl (Below.refl _ _) hI)
    · generalize hA : putsA _ _ x [0, 1, 2, 3, 4, 5, 6, 7, 8, 9, 10, 11, 12, 13, 14, 15] = A_ at *
      have e46 : A_.tmps[46]? = some (x 0) := by rw [← hA]; exact putsA_in (i := 0) 46 (by rfl) (by show (46 : Nat) < 111; decide) _ (by decide +kernel) (by decide)
      have f0 : x 0 = lp q := hd 0 (by decide)
      rw [f0] at e46
      clear hA hd
      refine wpOp_step rfl (fun K' hK' => ?_)
      go_simp
      exact hK' _ _ (hK _ _ rfl (Below.refl _ _) hI)
    · generalize hA : putsA _ _ x [0, 1, 2, 3, 4, 5, 6, 7, 8, 9, 10, 11, 12, 13, 14, 15] = A_ at *
      have e47 : A_.tmps[47]? = some (x 1) := by rw [← hA]; exact putsA_in (i := 1) 47 (by rfl) (by show (47 : Nat) < 111; decide) _ (by decide +kernel) (by decide)
      have f1 : x 1 = lp q := hd 1 (by decide)
      rw [f1] at e47
      clear hA hd
      refine wpOp_step rfl (fun K' hK' => ?_)
      go_simp
      exact hK' _ _ (hK _ _ rfl (Below.refl _ _) hI)
    · generalize hA : putsA _ _ x [0, 1, 2, 3, 4, 5, 6, 7, 8, 9, 10, 11, 12, 13, 14, 15] = A_ at *
      have e48 : A_.tmps[48]? = some (x 2) := by rw [← hA]; exact putsA_in (i := 2) 48 (by rfl) (by show (48 : Nat) < 111; decide) _ (by decide +kernel) (by decide)
      have f2 : x 2 = .pointer (some ⟨q, 1, none⟩) := hd 2 (by decide)
      rw [f2] at e48
      clear hA hd
      refine wpOp_step rfl (fun K' hK' => ?_)
      go_simp
      exact hK' _ _ (hK _ _ rfl (Below.refl _ _) hI)
    · generalize hA : putsA _ _ x [0, 1, 2, 3, 4, 5, 6, 7, 8, 9, 10, 11, 12, 13, 14, 15] = A_ at *
      have e49 : A_.tmps[49]? = some (x 3) := by rw [← hA]; exact putsA_in (i := 3) 49 (by rfl) (by show (49 : Nat) < 111; decide) _ (by decide +kernel) (by decide)
      have f3 : x 3 = .pointer (some ⟨q, 1, none⟩) := hd 3 (by decide)
      rw [f3] at e49
      clear hA hd
      refine wpOp_step rfl (fun K' hK' => ?_)
      go_simp
      exact hK' _ _ (hK _ _ rfl (Below.refl _ _) hI)
    · generalize hA : putsA _ _ x [0, 1, 2, 3, 4, 5, 6, 7, 8, 9, 10, 11, 12, 13, 14, 15] = A_ at *
      have e0 : A_.tmps[0]? = some (lp q) := by rw [← hA]; exact putsA_at 0 _ (by decide +kernel)
      clear hA hd
      refine wpOp_step rfl (fun K' hK' => ?_)
      go_simp
      exact hK' _ _ (hK _ _ rfl (Below.refl _ _) hI)
    · generalize hA : putsA _ _ x [0, 1, 2, 3, 4, 5, 6, 7, 8, 9, 10, 11, 12, 13, 14, 15] = A_ at *
      have e51 : A_.tmps[51]? = some (x 5) := by rw [← hA]; exact putsA_in (i := 5) 51 (by rfl) (by show (51 : Nat) < 111; decide) _ (by decide +kernel) (by decide)
      have f5 : x 5 = lp q := hd 5 (by decide)
      rw [f5] at e51
      clear hA hd
      refine wpOp_step rfl (fun K' hK' => ?_)
      go_simp
      exact hK' _ _ (hK _ _ rfl (Below.refl _ _) hI)
    · generalize hA : putsA _ _ x [0, 1, 2, 3, 4, 5, 6, 7, 8, 9, 10, 11, 12, 13, 14, 15] = A_ at *
      have e52 : A_.tmps[52]? = some (x 6) := by rw [← hA]; exact putsA_in (i := 6) 52 (by rfl) (by show (52 : Nat) < 111; decide) _ (by decide +kernel) (by decide)
      have f6 : x 6 = lp q := hd 6 (by decide)
      rw [f6] at e52
      clear hA hd
      refine wpOp_step rfl (fun K' hK' => ?_)
      go_simp
      exact hK' _ _ (hK _ _ rfl (Below.refl _ _) hI)
    · generalize hA : putsA _ _ x [0, 1, 2, 3, 4, 5, 6, 7, 8, 9, 10, 11, 12, 13, 14, 15] = A_ at *
      have e53 : A_.tmps[53]? = some (x 7) := by rw [← hA]; exact putsA_in (i := 7) 53 (by rfl) (by show (53 : Nat) < 111; decide) _ (by decide +kernel) (by decide)
      have f7 : x 7 = .pointer (some ⟨q, 5, none⟩) := hd 7 (by decide)
      rw [f7] at e53
      clear hA hd
      refine wpOp_step rfl (fun K' hK' => ?_)
      go_simp
      exact hK' _ _ (hK _ _ rfl (Below.refl _ _) hI)
    · generalize hA : putsA _ _ x [0, 1, 2, 3, 4, 5, 6, 7, 8, 9, 10, 11, 12, 13, 14, 15] = A_ at *
      have e54 : A_.tmps[54]? = some (x 8) := by rw [← hA]; exact putsA_in (i := 8) 54 (by rfl) (by show (54 : Nat) < 111; decide) _ (by decide +kernel) (by decide)
      have f8 : x 8 = .slice A1 nf c1 := hd 8 (by decide)
      rw [f8] at e54
      clear hA hd
      refine wpOp_step rfl (fun K' hK' => ?_)
      go_simp
      exact hK' _ _ (hK _ _ rfl (Below.refl _ _) hI)
    · generalize hA : putsA _ _ x [0, 1, 2, 3, 4, 5, 6, 7, 8, 9, 10, 11, 12, 13, 14, 15] = A_ at *
      have e7 : A_.tmps[7]? = some (.slice A2 n c2) := by rw [← hA]; exact putsA_at 7 _ (by decide +kernel)
      clear hA hd
      refine wpOp_step rfl (fun K' hK' => ?_)
      go_simp
      exact hK' _ _ (hK _ _ rfl (Below.refl _ _) hI)
    · generalize hA : putsA _ _ x [0, 1, 2, 3, 4, 5, 6, 7, 8, 9, 10, 11, 12, 13, 14, 15] = A_ at *
      have e56 : A_.tmps[56]? = some (x 10) := by rw [← hA]; exact putsA_in (i := 10) 56 (by rfl) (by show (56 : Nat) < 111; decide) _ (by decide +kernel) (by decide)
      have f10 : x 10 = .slice A2 n c2 := hd 10 (by decide)
      rw [f10] at e56
      clear hA hd
      refine wpOp_step rfl (fun K' hK' => ?_)
      go_simp
      exact hK' _ _ (hK _ _ rfl (Below.refl _ _) hI)
    · generalize hA : putsA _ _ x [0, 1, 2, 3, 4, 5, 6, 7, 8, 9, 10, 11, 12, 13, 14, 15] = A_ at *
      have e55 : A_.tmps[55]? = some (x 9) := by rw [← hA]; exact putsA_in (i := 9) 55 (by rfl) (by show (55 : Nat) < 111; decide) _ (by decide +kernel) (by decide)
      have f9 : x 9 = .int .i64 (nf : Int) := hd 9 (by decide)
      rw [f9] at e55
      have e57 : A_.tmps[57]? = some (x 11) := by rw [← hA]; exact putsA_in (i := 11) 57 (by rfl) (by show (57 : Nat) < 111; decide) _ (by decide +kernel) (by decide)
      have f11 : x 11 = .int .i64 (n : Int) := hd 11 (by decide)
      rw [f11] at e57
      clear hA hd
      refine wpOp_step rfl (fun K' hK' => ?_)
      go_simp
      exact hK' _ _ (hK _ _ (by first | rfl | exact congrArg (Value.int .i64) hw1) (Below.refl _ _) hI)
    · generalize hA : putsA _ _ x [0, 1, 2, 3, 4, 5, 6, 7, 8, 9, 10, 11, 12, 13, 14, 15] = A_ at *
      have e1 : A_.tmps[1]? = some (.int .i64 (pg : Int)) := by rw [← hA]; exact putsA_at 1 _ (by decide +kernel)
      clear hA hd
      refine wpOp_step rfl (fun K' hK' => ?_)
      go_simp
      exact hK' _ _ (hK _ _ rfl (Below.refl _ _) hI)
    · generalize hA : putsA _ _ x [0, 1, 2, 3, 4, 5, 6, 7, 8, 9, 10, 11, 12, 13, 14, 15] = A_ at *
      have e50 : A_.tmps[50]? = some (x 4) := by rw [← hA]; exact putsA_in (i := 4) 50 (by rfl) (by show (50 : Nat) < 111; decide) _ (by decide +kernel) (by decide)
      have f4 : x 4 = .int .u64 n0 := hd 4 (by decide)
      rw [f4] at e50
      have e58 : A_.tmps[58]? = some (x 12) := by rw [← hA]; exact putsA_in (i := 12) 58 (by rfl) (by show (58 : Nat) < 111; decide) _ (by decide +kernel) (by decide)
      have f12 : x 12 = .int .i64 ((nf : Int) + n) := hd 12 (by decide)
      rw [f12] at e58
      have e59 : A_.tmps[59]? = some (x 13) := by rw [← hA]; exact putsA_in (i := 13) 59 (by rfl) (by show (59 : Nat) < 111; decide) _ (by decide +kernel) (by decide)
      have f13 : x 13 = .int .i64 (pg : Int) := hd 13 (by decide)
      rw [f13] at e59
      clear hA hd
      refine wpOp_step rfl (fun K' hK' => ?_)
      go_simp
      exact hK' _ _ (hK _ _ rfl (Below.refl _ _) hI)
    · generalize hA : putsA _ _ x [0, 1, 2, 3, 4, 5, 6, 7, 8, 9, 10, 11, 12, 13, 14, 15] = A_ at *
      clear hA hd
      refine wpOp_step rfl (fun K' hK' => ?_)
      go_simp
      exact hK' _ _ (hK _ _ ⟨W.heap.size, rfl, hI.size, Blk.new _ _ _⟩ allocB (bj hI allocB))
  case hend =>
    intro x W b_ c_ hf hpf hqf hI
    have f0 : x 0 = lp q := hf 0 (by decide)
    have f1 : x 1 = lp q := hf 1 (by decide)
    have f2 : x 2 = .pointer (some ⟨q, 1, none⟩) := hf 2 (by decide)
    have f3 : x 3 = .pointer (some ⟨q, 1, none⟩) := hf 3 (by decide)
    have f4 : x 4 = .int .u64 n0 := hf 4 (by decide)
    have f5 : x 5 = lp q := hf 5 (by decide)
    have f6 : x 6 = lp q := hf 6 (by decide)
    have f7 : x 7 = .pointer (some ⟨q, 5, none⟩) := hf 7 (by decide)
    have f8 : x 8 = .slice A1 nf c1 := hf 8 (by decide)
    have f9 : x 9 = .int .i64 (nf : Int) := hf 9 (by decide)
    have f10 : x 10 = .slice A2 n c2 := hf 10 (by decide)
    have f11 : x 11 = .int .i64 (n : Int) := hf 11 (by decide)
    have f12 : x 12 = .int .i64 ((nf : Int) + n) := hf 12 (by decide)
    have f13 : x 13 = .int .i64 (pg : Int) := hf 13 (by decide)
    have f14 : x 14 = .agg #[.int .u64 n0, .int .i64 ((nf : Int) + n), .int .i64 (pg : Int)] := hf 14 (by decide)
    obtain ⟨k15, f15, hk15, hb15⟩ := hf 15 (by decide)
    replace f15 : x 15 = .pointer (some ⟨k15, 0, none⟩) := f15
    rw [putsA_lit _ _ [0, 1, 2, 3, 4, 5, 6, 7, 8, 9, 10, 11, 12, 13, 14, 15] ((10, 15) :: (46, 0) :: (47, 1) :: (48, 2) :: (49, 3) :: (50, 4) :: (51, 5) :: (52, 6) :: (53, 7) :: (54, 8) :: (55, 9) :: (56, 10) :: (57, 11) :: (58, 12) :: (59, 13) :: (60, 14) :: []) (by kernel_rfl)]
    simp only [setAll, ↓reduceIte, Nat.reduceAdd, Nat.reduceEqDiff]
    rw [f0, f1, f2, f3, f4, f5, f6, f7, f8, f9, f10, f11, f12, f13, f14, f15]
    clear hf hpf hqf f0 f1 f2 f3 f4 f5 f6 f7 f8 f9 f10 f11 f12 f13 f14 f15
    obtain ⟨z0, z1, z2⟩ := trip_at hb15
    have r0 := hb15.frozen 0
    have r1 := hb15.frozen 1
    have r2 := hb15.frozen 2
    have HKB := Lib.hid (show Blk (((W.setCell ⟨k15, 0, none⟩ (.int .u64 n0)).setCell ⟨k15, 1, none⟩ (.int .i64 ((nf : Int) + n))).setCell ⟨k15, 2, none⟩ (.int .i64 (pg : Int))) k15 45 #[.int .u64 n0, .int .i64 ((nf : Int) + n), .int .i64 (pg : Int)] from ((hb15.set_ 0 _).set_ 1 _).set_ 2 _)
    have HBW := Lib.hid (show Below W3.heap.size W3 (((W.setCell ⟨k15, 0, none⟩ (.int .u64 n0)).setCell ⟨k15, 1, none⟩ (.int .i64 ((nf : Int) + n))).setCell ⟨k15, 2, none⟩ (.int .i64 (pg : Int))) from ((hI.setCell (p := ⟨k15, 0, none⟩) hk15 _).setCell (p := ⟨k15, 1, none⟩) hk15 _).setCell (p := ⟨k15, 2, none⟩) hk15 _)
    have HK15 := Lib.hid hk15
    clear hb15 hk15 hI
    refine wpAny_ready (rs := [16]) (by kernel_rfl) (by simp) ?_
    refine AllReady.cons rfl (fun K hK => ?_) AllReady.nil
    go_simp
    refine hK _ _ ?_
    clear hK K z0 z1 z2 r0 r1 r2
    refine wpAny_done (by kernel_rfl) ?_ _
    refine NoPanic.normal ?_
    clear x HC3
    generalize ((W.setCell ⟨k15, 0, none⟩ (.int .u64 n0)).setCell ⟨k15, 1, none⟩ (.int .i64 ((nf : Int) + n))).setCell ⟨k15, 2, none⟩ (.int .i64 (pg : Int)) = W4 at *
    have H4 := Lib.hid (lgAt_below H3.out HBW.out)
    have HO4 := Lib.hid (own_lies HO3.out HBW.out)
    have HB4 := Lib.hid (bj HB3.out HBW.out)
    have HJ9 := Lib.hid (blk_step HK9.out HBW.out)
    have HQ15 := Lib.hid (show w.heap.size ≤ k15 from Nat.le_trans HB3.out.size HK15.out)
    clear H3 HO3 HB3 HK9 HBW HK15
    rw [HL0.out] at HKB
    obtain ⟨k0, k1, k2⟩ := trip_at HKB.out
    have HPH := Lib.hid (show Calls Try.prog 37 #[.agg #[.int .u64 l.N, .int .i64 ((nf : Int) + n), .int .i64 (pg : Int)]] W4 fun e w' => e = .returned (.tuple #[.string (bstr (headL l.N (nf + n) pg)), .int .i64 0]) ∧ Below W4.heap.size W4 w' from by
      have := putHead_ok l.N (nf + n) pg W4 H4.out.ub.1 (by omega) hpgN
      rw [Int.natCast_add] at this
      exact this)
    rw [HL0.out]
    go_wp2_with fail
    refine (HPH.out).mono ?_
    rintro e w5 ⟨rfl, hb5⟩
    have H5 := Lib.hid (lgAt_below H4.out hb5)
    have HO5 := Lib.hid (own_lies HO4.out hb5)
    have HB5 := Lib.hid (bj HB4.out hb5)
    have HG9 := Lib.hid (blk_step HJ9.out hb5)
    have HG15 := Lib.hid (blk_step HKB.out hb5)
    clear hb5 H4 HO4 HB4 HJ9 HKB HPH k0 k1 k2
    go_wp2_with fail
    refine wp_region_noPanic ?_
    refine wp_region_any (by kernel_rfl) ?_
    refine facts_sw [0, 1, 2, 3, 4, 5, 6, 7, 8, 9, 10, 11, 12, 13] (fun i => match i with | 1 => [0] | 4 => [3] | 5 => [4] | 6 => [5] | 7 => [6] | 8 => [7] | 10 => [2, 8, 9] | 12 => [11] | 13 => [10, 12] | _ => []) 99 99 (fun i v W => match i with | 0 => v = lp q | 1 => v = .slice none 0 0 | 2 => v = lp q | 3 => v = lp q | 4 => v = lp q | 5 => v = .pointer (some ⟨q, 5, none⟩) | 6 => v = .slice A1 nf c1 | 7 => v = .int .i64 (nf : Int) | 8 => v = .int .i64 (1 + (nf : Int) * 9) | 9 => v = .string T | 10 => ∃ k, v = wrV k ∧ w.heap.size ≤ k ∧ WrB W q k 1 (1 + (nf : Nat) * 9) T | 11 => v = lp q | 12 => v = syV q | 13 => ∃ k k1, v = .slice (some ⟨k, 0, none⟩) 2 2 ∧ w.heap.size ≤ k ∧ w.heap.size ≤ k1 ∧ Blk W k 86 #[wrV k1, syV q] ∧ WrB W q k1 1 (1 + (nf : Nat) * 9) T | _ => True) (fun W W' => Below W.heap.size W W') (fun _ _ W => Below w5.heap.size w5 W) _ _ _ 2 _ #[true, true, true, true, true, true, true, true, true, true, true, true, true, true, false, false] (fun i v W W' h hs => match i, h with | 0, h => h | 1, h => h | 2, h => h | 3, h => h | 4, h => h | 5, h => h | 6, h => h | 7, h => h | 8, h => h | 9, h => h | 10, ⟨k, h1, h2, h3⟩ => ⟨k, h1, h2, wrB_below h3 hs⟩ | 11, h => h | 12, h => h | 13, ⟨k, k1, h1, h2, h3, h4, h5⟩ => ⟨k, k1, h1, h2, h3, blk_step h4 hs, wrB_below h5 hs⟩ | 14, h => h | 15, h => h | _ + 16, h => h) (by kernel_rfl) (by rfl) (Below.refl _ _).drew ?hstep ?hend
    case hstep =>
      intro i hi b_ c_ hbp hcq hbd hcd x W hd hI K hK
      simp only [List.mem_cons, List.not_mem_nil, or_false] at hi
      rcases hi with rfl | rfl | rfl | rfl | rfl | rfl | rfl | rfl | rfl | rfl | rfl | rfl | rfl | rfl
      · generalize hA : putsA _ _ x [0, 1, 2, 3, 4, 5, 6, 7, 8, 9, 10, 11, 12, 13] = A_ at *
        have e0 : A_.tmps[0]? = some (lp q) := by rw [← hA]; exact putsA_at 0 _ (by decide +kernel)
        clear hA hd
        refine wpOp_step rfl (fun K' hK' => ?_)
        go_simp
        exact hK' _ _ (hK _ _ rfl (Below.refl _ _) hI)
      · generalize hA : putsA _ _ x [0, 1, 2, 3, 4, 5, 6, 7, 8, 9, 10, 11, 12, 13] = A_ at *
        have e66 : A_.tmps[66]? = some (x 0) := by rw [← hA]; exact putsA_in (i := 0) 66 (by rfl) (by show (66 : Nat) < 111; decide) _ (by decide +kernel) (by decide)
        have f0 : x 0 = lp q := hd 0 (by decide)
        rw [f0] at e66
        clear hA hd
        refine wpOp_step rfl (fun K' hK' => ?_)
        go_simp
        refine (mended_calm (lgS_below ⟨Sd, A1, c1, H5.out⟩ hI) HT.out).mono ?_
        rintro e w6 ⟨rfl, rfl⟩
        exact hK' _ _ (hK _ _ rfl (Below.refl _ _) hI)
      · generalize hA : putsA _ _ x [0, 1, 2, 3, 4, 5, 6, 7, 8, 9, 10, 11, 12, 13] = A_ at *
        have e0 : A_.tmps[0]? = some (lp q) := by rw [← hA]; exact putsA_at 0 _ (by decide +kernel)
        clear hA hd
        refine wpOp_step rfl (fun K' hK' => ?_)
        go_simp
        exact hK' _ _ (hK _ _ rfl (Below.refl _ _) hI)
      · generalize hA : putsA _ _ x [0, 1, 2, 3, 4, 5, 6, 7, 8, 9, 10, 11, 12, 13] = A_ at *
        have e0 : A_.tmps[0]? = some (lp q) := by rw [← hA]; exact putsA_at 0 _ (by decide +kernel)
        clear hA hd
        refine wpOp_step rfl (fun K' hK' => ?_)
        go_simp
        exact hK' _ _ (hK _ _ rfl (Below.refl _ _) hI)
      · generalize hA : putsA _ _ x [0, 1, 2, 3, 4, 5, 6, 7, 8, 9, 10, 11, 12, 13] = A_ at *
        have e69 : A_.tmps[69]? = some (x 3) := by rw [← hA]; exact putsA_in (i := 3) 69 (by rfl) (by show (69 : Nat) < 111; decide) _ (by decide +kernel) (by decide)
        have f3 : x 3 = lp q := hd 3 (by decide)
        rw [f3] at e69
        clear hA hd
        refine wpOp_step rfl (fun K' hK' => ?_)
        go_simp
        exact hK' _ _ (hK _ _ rfl (Below.refl _ _) hI)
      · generalize hA : putsA _ _ x [0, 1, 2, 3, 4, 5, 6, 7, 8, 9, 10, 11, 12, 13] = A_ at *
        have e70 : A_.tmps[70]? = some (x 4) := by rw [← hA]; exact putsA_in (i := 4) 70 (by rfl) (by show (70 : Nat) < 111; decide) _ (by decide +kernel) (by decide)
        have f4 : x 4 = lp q := hd 4 (by decide)
        rw [f4] at e70
        clear hA hd
        refine wpOp_step rfl (fun K' hK' => ?_)
        go_simp
        exact hK' _ _ (hK _ _ rfl (Below.refl _ _) hI)
      · generalize hA : putsA _ _ x [0, 1, 2, 3, 4, 5, 6, 7, 8, 9, 10, 11, 12, 13] = A_ at *
        have e71 : A_.tmps[71]? = some (x 5) := by rw [← hA]; exact putsA_in (i := 5) 71 (by rfl) (by show (71 : Nat) < 111; decide) _ (by decide +kernel) (by decide)
        have f5 : x 5 = .pointer (some ⟨q, 5, none⟩) := hd 5 (by decide)
        rw [f5] at e71
        clear hA hd
        obtain ⟨-, -, -, -, -, x5, -⟩ := lg_cells (lgAt_below H5.out hI)
        rw [← HNF.out] at x5
        refine wpOp_step rfl (fun K' hK' => ?_)
        go_simp
        exact hK' _ _ (hK _ _ rfl (Below.refl _ _) hI)
      · generalize hA : putsA _ _ x [0, 1, 2, 3, 4, 5, 6, 7, 8, 9, 10, 11, 12, 13] = A_ at *
        have e72 : A_.tmps[72]? = some (x 6) := by rw [← hA]; exact putsA_in (i := 6) 72 (by rfl) (by show (72 : Nat) < 111; decide) _ (by decide +kernel) (by decide)
        have f6 : x 6 = .slice A1 nf c1 := hd 6 (by decide)
        rw [f6] at e72
        clear hA hd
        refine wpOp_step rfl (fun K' hK' => ?_)
        go_simp
        exact hK' _ _ (hK _ _ rfl (Below.refl _ _) hI)
      · generalize hA : putsA _ _ x [0, 1, 2, 3, 4, 5, 6, 7, 8, 9, 10, 11, 12, 13] = A_ at *
        have e73 : A_.tmps[73]? = some (x 7) := by rw [← hA]; exact putsA_in (i := 7) 73 (by rfl) (by show (73 : Nat) < 111; decide) _ (by decide +kernel) (by decide)
        have f7 : x 7 = .int .i64 (nf : Int) := hd 7 (by decide)
        rw [f7] at e73
        clear hA hd
        refine wpOp_step rfl (fun K' hK' => ?_)
        go_simp
        refine (frameAt_any (nf : Int) W (by omega) (by omega)).mono ?_
        rintro e w6 ⟨rfl, rfl⟩
        exact hK' _ _ (hK _ _ rfl (Below.refl _ _) hI)
      · generalize hA : putsA _ _ x [0, 1, 2, 3, 4, 5, 6, 7, 8, 9, 10, 11, 12, 13] = A_ at *
        have e8 : A_.tmps[8]? = some (.string T) := by rw [← hA]; exact putsA_at 8 _ (by decide +kernel)
        clear hA hd
        refine wpOp_step rfl (fun K' hK' => ?_)
        go_simp
        exact hK' _ _ (hK _ _ rfl (Below.refl _ _) hI)
      · generalize hA : putsA _ _ x [0, 1, 2, 3, 4, 5, 6, 7, 8, 9, 10, 11, 12, 13] = A_ at *
        have e68 : A_.tmps[68]? = some (x 2) := by rw [← hA]; exact putsA_in (i := 2) 68 (by rfl) (by show (68 : Nat) < 111; decide) _ (by decide +kernel) (by decide)
        have f2 : x 2 = lp q := hd 2 (by decide)
        rw [f2] at e68
        have e74 : A_.tmps[74]? = some (x 8) := by rw [← hA]; exact putsA_in (i := 8) 74 (by rfl) (by show (74 : Nat) < 111; decide) _ (by decide +kernel) (by decide)
        have f8 : x 8 = .int .i64 (1 + (nf : Int) * 9) := hd 8 (by decide)
        rw [f8] at e74
        have e75 : A_.tmps[75]? = some (x 9) := by rw [← hA]; exact putsA_in (i := 9) 75 (by rfl) (by show (75 : Nat) < 111; decide) _ (by decide +kernel) (by decide)
        have f9 : x 9 = .string T := hd 9 (by decide)
        rw [f9] at e75
        clear hA hd
        refine wpOp_step rfl (fun K' hK' => ?_)
        go_simp
        refine (wwrite_any q 1 (1 + (nf : Int) * 9) T W).mono ?_
        rintro e w6 ⟨rfl, hwr, hb6⟩
        exact hK' _ _ (hK _ _ ⟨W.heap.size, rfl, (bj HB5.out hI).size, hwr⟩ hb6 (bj hI hb6))
      · generalize hA : putsA _ _ x [0, 1, 2, 3, 4, 5, 6, 7, 8, 9, 10, 11, 12, 13] = A_ at *
        have e0 : A_.tmps[0]? = some (lp q) := by rw [← hA]; exact putsA_at 0 _ (by decide +kernel)
        clear hA hd
        refine wpOp_step rfl (fun K' hK' => ?_)
        go_simp
        exact hK' _ _ (hK _ _ rfl (Below.refl _ _) hI)
      · generalize hA : putsA _ _ x [0, 1, 2, 3, 4, 5, 6, 7, 8, 9, 10, 11, 12, 13] = A_ at *
        have e77 : A_.tmps[77]? = some (x 11) := by rw [← hA]; exact putsA_in (i := 11) 77 (by rfl) (by show (77 : Nat) < 111; decide) _ (by decide +kernel) (by decide)
        have f11 : x 11 = lp q := hd 11 (by decide)
        rw [f11] at e77
        clear hA hd
        refine wpOp_step rfl (fun K' hK' => ?_)
        go_simp
        exact hK' _ _ (hK _ _ rfl (Below.refl _ _) hI)
      · generalize hA : putsA _ _ x [0, 1, 2, 3, 4, 5, 6, 7, 8, 9, 10, 11, 12, 13] = A_ at *
        have e76 : A_.tmps[76]? = some (x 10) := by rw [← hA]; exact putsA_in (i := 10) 76 (by rfl) (by show (76 : Nat) < 111; decide) _ (by decide +kernel) (by decide)
        obtain ⟨k10, f10, hk10, hw10⟩ := hd 10 (by decide)
        replace f10 : x 10 = wrV k10 := f10
        rw [f10] at e76
        have e78 : A_.tmps[78]? = some (x 12) := by rw [← hA]; exact putsA_in (i := 12) 78 (by rfl) (by show (78 : Nat) < 111; decide) _ (by decide +kernel) (by decide)
        have f12 : x 12 = syV q := hd 12 (by decide)
        rw [f12] at e78
        clear hA hd
        refine wpOp_step rfl (fun K' hK' => ?_)
        go_simp
        exact hK' _ _ (hK _ _ ⟨W.heap.size, k10, rfl, (bj HB5.out hI).size, hk10, Blk.new _ _ _, wrB_below hw10 allocB⟩ allocB (bj hI allocB))
    case hend =>
      intro x W b_ c_ hf hpf hqf hI
      have f0 : x 0 = lp q := hf 0 (by decide)
      have f1 : x 1 = .slice none 0 0 := hf 1 (by decide)
      have f2 : x 2 = lp q := hf 2 (by decide)
      have f3 : x 3 = lp q := hf 3 (by decide)
      have f4 : x 4 = lp q := hf 4 (by decide)
      have f5 : x 5 = .pointer (some ⟨q, 5, none⟩) := hf 5 (by decide)
      have f6 : x 6 = .slice A1 nf c1 := hf 6 (by decide)
      have f7 : x 7 = .int .i64 (nf : Int) := hf 7 (by decide)
      have f8 : x 8 = .int .i64 (1 + (nf : Int) * 9) := hf 8 (by decide)
      have f9 : x 9 = .string T := hf 9 (by decide)
      obtain ⟨k10, f10, hk10, hw10⟩ := hf 10 (by decide)
      replace f10 : x 10 = wrV k10 := f10
      have f11 : x 11 = lp q := hf 11 (by decide)
      have f12 : x 12 = syV q := hf 12 (by decide)
      obtain ⟨k13, j13, f13, hk13, hj13, hb13, hw13⟩ := hf 13 (by decide)
      replace f13 : x 13 = .slice (some ⟨k13, 0, none⟩) 2 2 := f13
      rw [putsA_lit _ _ [0, 1, 2, 3, 4, 5, 6, 7, 8, 9, 10, 11, 12, 13] ((66, 0) :: (67, 1) :: (68, 2) :: (69, 3) :: (70, 4) :: (71, 5) :: (72, 6) :: (73, 7) :: (74, 8) :: (75, 9) :: (76, 10) :: (77, 11) :: (78, 12) :: (79, 13) :: []) (by kernel_rfl)]
      simp only [setAll, ↓reduceIte, Nat.reduceAdd, Nat.reduceEqDiff]
      rw [f0, f1, f2, f3, f4, f5, f6, f7, f8, f9, f10, f11, f12, f13]
      clear hf hpf hqf f0 f1 f2 f3 f4 f5 f6 f7 f8 f9 f10 f11 f12 f13
      have HI6 := Lib.hid hI
      have HW13 := Lib.hid (And.intro hw13 hj13)
      have HK13 := Lib.hid hb13
      clear hI hw13 hj13 hb13 hw10
      obtain ⟨i0, hi, hz0, hz1, hz2⟩ := info_parts st_info
      refine wpAny_ready (rs := [14]) (by kernel_rfl) (by simp) ?_
      refine AllReady.cons rfl (fun K hK => ?_) AllReady.nil
      refine step_append_lies _ (by rfl) (.tmp 67) (.tmp 79) 84 (by rfl) w.heap.size 86 i0 _ 1 8 Try.underlying84 hi hz0 hz1 hz2 rfl (by omega) (.slice none 0 0) 0 [] rfl (World.ownsRow_nil _ _ _ _) ⟨k13, 0, none⟩ 2 2 [wrV j13, syV q] rfl rfl (fun j u hu => by
        match j with
        | 0 => cases hu; exact HK13.out.cell 0
        | 1 => cases hu; rw [Addr.add_mid]; exact HK13.out.cell 1
        | j + 2 => simp at hu) (by intro u hu; simp at hu; rcases hu with rfl | rfl <;> rfl) (by omega) (by simp only [maxLen]; omega) (by omega) (bj HB5.out HI6.out).size _ rfl ?_
      intro gA capA w6 hownA hgA _ hltA
      refine hK _ _ ?_
      clear hK K
      rw [Nat.zero_add, List.nil_append] at hownA
      have hb6 : Below W.heap.size W w6 := (Below.refl _ W).grown hgA (Nat.le_refl _) (fun k hk => by cases hk)
      have H6 := Lib.hid (lgAt_below H5.out (bj HI6.out hb6))
      have HO6 := Lib.hid (own_lies HO5.out (bj HI6.out hb6))
      have HB6 := Lib.hid (bj HB5.out (bj HI6.out hb6))
      have HG9b := Lib.hid (blk_step HG9.out (bj HI6.out hb6))
      have HG15b := Lib.hid (blk_step HG15.out (bj HI6.out hb6))
      have HW6 := Lib.hid (wrB_below HW13.out.1 hb6)
      have HA6 := Lib.hid hownA
      have HJ13 := Lib.hid HW13.out.2
      clear hb6 hownA hgA HI6 HW13 HK13 H5 HO5 HB5 HG9 HG15
      refine wpAny_ready (rs := [15]) (by kernel_rfl) (by simp) ?_
      refine AllReady.cons rfl (fun K hK => ?_) AllReady.nil
      go_simp
      refine hK _ _ ?_
      clear hK K
      refine wpAny_done (by kernel_rfl) ?_ _
      refine NoPanic.normal ?_
      clear x
      go_wp2_with fail
      refine (wlay_any q (bstr (headL l.N (nf + n) pg)) w6).mono ?_
      rintro e w7 ⟨rfl, hlay, hb7⟩
      have H7 := Lib.hid (lgAt_below H6.out hb7)
      have HO7 := Lib.hid (own_lies HO6.out hb7)
      have HB7 := Lib.hid (bj HB6.out hb7)
      have HG9c := Lib.hid (blk_step HG9b.out hb7)
      have HG15c := Lib.hid (blk_step HG15b.out hb7)
      have HW7 := Lib.hid (wrB_below HW6.out hb7)
      have HA7 := Lib.hid (own_lies HA6.out hb7)
      have HLY := Lib.hid hlay
      have HSZ := Lib.hid HB6.out.size
      have hrd : Reads w7 w7.heap.size 1 (some ⟨w6.heap.size + 2, 0, none⟩) 2 [layV w6.heap.size, syV q] := ⟨rfl, fun _ => ⟨_, rfl, hlay.2.2.lt, fun j u hu => by
        match j with
        | 0 => cases hu; exact HLY.out.2.2.cell 0
        | 1 => cases hu; rw [Addr.add_mid]; exact HLY.out.2.2.cell 1
        | j + 2 => simp at hu⟩⟩
      clear hb7 hlay H6 HO6 HB6 HG9b HG15b HW6 HA6
      go_wp2_with (at_builtin; refine wpList_append_any _ rfl (.tmp 82) (.tmp 85) 84 rfl w.heap.size 86 i0 _ 1 8 Try.underlying84 hi hz0 hz1 hz2 rfl (by omega) _ 2 [wrV j13, syV q] rfl HA7.out w7.heap.size (some ⟨w6.heap.size + 2, 0, none⟩) 2 2 [layV w6.heap.size, syV q] rfl hrd (by intro u hu; simp at hu; rcases hu with rfl | rfl <;> rfl) (by simp only [maxLen]; omega) (by omega) HB7.out.size ?_; intro v8 w8 hown8 hg8 hat8; obtain ⟨A8, c8, rfl⟩ := own_form hown8; (have HO8 := Lib.hid hown8); (have HG8 := Lib.hid hg8); clear hown8 hg8 hat8 hrd)
      have hb8 : Below w.heap.size w7 w8 := (Below.refl _ w7).grown HG8.out HB7.out.size (fun k hk => (HA7.out.lt k hk).1)
      have HSL := Lib.hid (show ∀ b, S b → b < w.heap.size from by
        obtain ⟨_, _, _, hS0⟩ := HS0.out
        exact hS0.lt)
      have H8 := Lib.hid (lgAt_keep H7.out (T := fun b => w.heap.size ≤ b) ⟨hb8.os, hb8.tape, hb8.output, hb8.size, fun k hk hn => hb8.block k (Nat.lt_of_not_le hn)⟩ (fun b hb hn => by have := HSL.out b hb; omega))
      have HFR := Lib.hid (own_block HO7.out (fun z hz => HG8.out.block z (HO7.out.lt z hz).2 (fun e => rows_apart HO7.out HA7.out (by decide) hz e.symm)))
      have HB8 := Lib.hid (show Below w.heap.size w w8 from HB7.out.trans hb8)
      have hgb : ∀ k t cs, Blk w7 k t cs → 86 ≠ t → Blk w8 k t cs := fun k t cs hk hne => (HG8.out.block k hk.lt (fun e => row_ne_blk HA7.out hk hne e.symm)).trans hk
      have HG9d := Lib.hid (hgb _ _ _ HG9c.out (by decide))
      have HG15d := Lib.hid (hgb _ _ _ HG15c.out (by decide))
      have HW8 := Lib.hid (show WrB w8 q j13 1 (1 + (nf : Nat) * 9) T from ⟨hgb _ _ _ HW7.out.1 (by decide), hgb _ _ _ HW7.out.2.1 (by decide), hgb _ _ _ HW7.out.2.2.1 (by decide), hgb _ _ _ HW7.out.2.2.2 (by decide)⟩)
      have HLYd := Lib.hid (And.intro (hgb _ _ _ HLY.out.1 (by decide)) (hgb _ _ _ HLY.out.2.1 (by decide)))
      have HSP := Lib.hid (show SpsAt w8 S q A8 (appS l pg ims) from by
        rw [HAS.out]
        refine sps_own HO8.out HSL.out ?_
        intro j sp hj
        match j with
        | 0 => cases hj; exact ⟨_, rfl, wrB_spV HW8.out HTS.out (fun b hb => Nat.lt_of_lt_of_le (HSL.out b hb) HJ13.out)⟩
        | 1 => cases hj; exact ⟨_, rfl, rfl⟩
        | 2 => cases hj; exact ⟨_, rfl, by rw [headL_size]; omega, w6.heap.size, w6.heap.size + 1, rfl, HLYd.out.1, HLYd.out.2, fun e => by have h1 := HSL.out _ e; have h2 := HSZ.out; omega, fun e => by have h1 := HSL.out _ e; have h2 := HSZ.out; omega⟩
        | 3 => cases hj; exact ⟨_, rfl, rfl⟩
        | j + 4 => simp at hj)
      have HDO := Lib.hid (wdone_any ⟨Sd, A1, c1, H8.out⟩ A8 4 c8 (appS l pg ims) HSP.out (by rw [HAS.out]; rfl) hN)
      rw [HDD.out] at HDO
      clear hb8 hgb H7 HO7 HB7 HG9c HG15c HW7 HA7 HLY HG8 HO8 HW8 HLYd HSP HAS HDD
      obtain ⟨⟨d9, l9⟩, z9⟩ := DD
      simp only at HDO HRR
      go_wp2_with fail
      refine (HDO.out).mono ?_
      rintro e w9 ⟨rfl, hR⟩
      have HR9 := Lib.hid (lgR_above HB8.out hR)
      have HR8 := Lib.hid hR
      clear hR HDO
      by_cases hz9 : z9 = 0
      rotate_left
      · have hzb : (z9 != 0) = true := by simp [hz9]
        have hRR := HRR.out
        rw [if_pos hz9] at hRR
        subst hRR
        clear HRR
        go_wp2
        go_ret
        exact ⟨rfl, HR9.out⟩
      · subst hz9
        have hRR : RR = ((d9, appL l pg ims l9), 0) := by rw [← HRR.out]; simp
        subst hRR
        clear HRR HR9 H8
        obtain ⟨S9, ⟨Sd9, A9, c9, h9⟩, f9, s9⟩ := HR8.out
        have hl9 : l9.fs.length = nf := by
          have h1 : l9.fs = l.fs := HLFS.out
          rw [h1, HNF.out]
        obtain ⟨F9, hF9⟩ : ∃ F9 : Nat, F9 = nf + n := ⟨_, rfl⟩
        have hF9I : (nf : Int) + n = (F9 : Int) := by omega
        have HLN := Lib.hid h9
        have hu1 := h9.ub.1
        have HNW := Lib.hid (show l.N < 18446744073709551616 from by
          obtain ⟨_, _, _, hS0⟩ := HS0.out
          exact hS0.ub.1)
        have h9h := lgAt_hd (lgAt_head h9 l.N F9 pg HNW.out (by omega) hpgN) true
        have HF9 := Lib.hid hF9
        clear hF9
        have H9H := Lib.hid h9h
        have hg15 : Blk w9 k15 45 #[.int .u64 l.N, .int .i64 ((nf : Int) + n), .int .i64 (pg : Int)] := fr_blk f9 HG15d.out (fun e => by have h1 := HSL.out _ e; have h2 := HQ15.out; omega)
        rw [hF9I] at hg15
        have HG9e := Lib.hid (fr_blk f9 HG9d.out (fun e => by have h1 := HSL.out _ e; have h2 := HQ9.out; omega))
        have HFR9 := Lib.hid (own_block HFR.out (fun z hz => f9.block z (HFR.out.lt z hz).2 (fun e => by have h1 := HSL.out _ e; have h2 := (HFR.out.lt z hz).1; have h3 := HW1.out; omega)))
        obtain ⟨t0, t1, t2⟩ := trip_at hg15
        obtain ⟨x0, x1, x2, x3, x4, x5, x6, x7, x8, x9⟩ := lg_cells h9
        rw [hl9] at x5
        have r1 := h9.blk.frozen 1
        have r2 := h9.blk.frozen 2
        have r3 := h9.blk.frozen 3
        have r4 := h9.blk.frozen 4
        have HFS9 := Lib.hid (And.intro f9 s9)
        have HNE := Lib.hid (show w2.heap.size ≠ q from fun e => by
          have h1 := HSL.out q (by
            obtain ⟨_, _, _, hS0⟩ := HS0.out
            exact hS0.sq)
          have h2 := HQ9.out
          omega)
        obtain ⟨iv, hv1, hv2, hv3, hv4⟩ := info_parts fr_info
        have HSQ := Lib.hid (show S q from by
          obtain ⟨_, _, _, hS0⟩ := HS0.out
          exact hS0.sq)
        have hqw : q < w.heap.size := HSL.out q HSQ.out
        have HK9N := Lib.hid (show ¬ S9 w2.heap.size from fun e => by
          rcases s9 _ e with h | h
          · have h1 := HSL.out _ h; have h2 := HQ9.out; omega
          · have h1 := HG9d.out.lt; omega)
        have HROW9 := Lib.hid (show World.ownsRow _ 0 61 3 (.slice A9 nf c9) nf (fxs l9.fs) from by
          have h : World.ownsRow _ 0 61 3 (.slice A9 l9.fs.length c9) l9.fs.length (fxs l9.fs) := H9H.out.row
          rw [hl9] at h
          exact h)
        have HFRX := Lib.hid (show ((((w9.setCell ⟨q, 1, none⟩ (.int .u64 l.N)).setCell ⟨q, 2, none⟩ (.int .i64 F9)).setCell ⟨q, 3, none⟩ (.int .i64 pg)).setCell ⟨q, 4, none⟩ (.bool true)).ownsRow w1.heap.size 61 3 (.slice A2 n c2) n (fxs fs) from own_block HFR9.out (fun z hz => by
          have h1 := (HFR9.out.lt z hz).1
          have h2 := HW1.out
          have hne : z ≠ q := by omega
          rw [Below.heap_setCell _ _ _ _ hne, Below.heap_setCell _ _ _ _ hne, Below.heap_setCell _ _ _ _ hne, Below.heap_setCell _ _ _ _ hne]))
        have HKX := Lib.hid (show Blk ((((w9.setCell ⟨q, 1, none⟩ (.int .u64 l.N)).setCell ⟨q, 2, none⟩ (.int .i64 F9)).setCell ⟨q, 3, none⟩ (.int .i64 pg)).setCell ⟨q, 4, none⟩ (.bool true)) w2.heap.size 73 #[.int .u32 E1, .int .u32 E2] from (((HG9e.out.far (p := ⟨q, 1, none⟩) HNE.out _).far (p := ⟨q, 2, none⟩) HNE.out _).far (p := ⟨q, 3, none⟩) HNE.out _).far (p := ⟨q, 4, none⟩) HNE.out _)
        have HFRW := Lib.hid (show Fr S w ((((w9.setCell ⟨q, 1, none⟩ (.int .u64 l.N)).setCell ⟨q, 2, none⟩ (.int .i64 F9)).setCell ⟨q, 3, none⟩ (.int .i64 pg)).setCell ⟨q, 4, none⟩ (.bool true)) from fr_set (fr_set (fr_set (fr_set (fr_trans (fr_of (S := S) HB8.out) f9 (fun b hb => .inl hb)) (p := ⟨q, 1, none⟩) (.inl HSQ.out) _) (p := ⟨q, 2, none⟩) (.inl HSQ.out) _) (p := ⟨q, 3, none⟩) (.inl HSQ.out) _) (p := ⟨q, 4, none⟩) (.inl HSQ.out) _)
        clear h9 h9h hg15 f9 s9 HG15d HG9d HFR HR8 hF9I x0 x6 x7 x8 x9 HG9e HFR9
        clear HMAY HFS HTS hpgN hi hz0 hz1 hz2 hnI hnfI HFB hgtI hltA hk10 hk13 HJ13 HSZ hqw
        go_upto_region 17 with fail
        have HXS := Lib.hid (show w9.heap.size ≤ ((((w9.setCell ⟨q, 1, none⟩ (.int .u64 l.N)).setCell ⟨q, 2, none⟩ (.int .i64 F9)).setCell ⟨q, 3, none⟩ (.int .i64 pg)).setCell ⟨q, 4, none⟩ (.bool true)).heap.size from by simp [World.setCell])
        generalize ((((w9.setCell ⟨q, 1, none⟩ (.int .u64 l.N)).setCell ⟨q, 2, none⟩ (.int .i64 F9)).setCell ⟨q, 3, none⟩ (.int .i64 pg)).setCell ⟨q, 4, none⟩ (.bool true)) = WX at *
        clear t0 t1 t2 x1 x2 x3 x4 x5 r1 r2 r3 r4 hu1 HLN
        have x5 : WX.cell? ⟨q, 5, none⟩ = some (.slice A9 nf c9) := by
          have h := (lg_cells H9H.out).2.2.2.2.2.1
          rw [← hl9]
          exact h
        have HG0 := Lib.hid (show ∀ (w10 : World) (A10 : Option Addr) (c10 : Nat), w10.ownsRow 0 61 3 (.slice A10 (nf + n) c10) (nf + n) (fxs l9.fs ++ fxs fs) → WX.grownBy w10 (Value.slice A9 nf c9).ownBlock → ((Value.slice A10 (nf + n) c10).ownBlock = (Value.slice A9 nf c9).ownBlock ∨ (Value.slice A10 (nf + n) c10).ownBlock = some WX.heap.size) → Blk w10 q 75 (lgC g { N := l.N, F := F9, P := pg, hd := true, fs := l9.fs, e := l9.e, torn := l9.torn, off := l9.off } A9 c9) ∧ LgAt (w10.setCell ⟨q, 5, none⟩ (.slice A10 (nf + n) c10)) (fun b => S9 b ∨ (Value.slice A10 (nf + n) c10).ownBlock = some b) Sd9 g q A10 c10 d9 (N + 4) { N := l.N, F := F9, P := pg, hd := true, fs := l9.fs ++ fs, e := l9.e, torn := l9.torn, off := l9.off } ∧ Blk (w10.setCell ⟨q, 5, none⟩ (.slice A10 (nf + n) c10)) w2.heap.size 73 #[.int .u32 E1, .int .u32 E2] ∧ Fr S w (w10.setCell ⟨q, 5, none⟩ (.slice A10 (nf + n) c10)) ∧ ∀ b, (S9 b ∨ (Value.slice A10 (nf + n) c10).ownBlock = some b) → S b ∨ w.heap.size ≤ b from fun w10 A10 c10 ho hg hat => by
          have hs9 : ∀ b, S9 b → S b ∨ w.heap.size ≤ b := fun b hb => (HFS9.out.2 b hb).imp id (fun h => Nat.le_trans HB8.out.size h)
          rw [← hl9] at ho hg hat
          have h1 := lgAt_moreq H9H.out hg
          have h2 := lgAt_more (m := n) (fs := fs) H9H.out HFL.out.symm ho hg hat (by show l9.fs.length + n ≤ 256; omega) HFO.out
          rw [← hl9]
          refine ⟨h1, h2, ?_, ?_, ?_⟩
          · have hk : Blk w10 w2.heap.size 73 #[.int .u32 E1, .int .u32 E2] := (hg.block _ HKX.out.lt (fun e => HK9N.out (H9H.out.sz _ e.symm))).trans HKX.out
            exact hk.far (p := ⟨q, 5, none⟩) HNE.out _
          · exact fr_set (fr_grown HFRW.out hg (fun z hz => hs9 z (H9H.out.sz z hz))) (p := ⟨q, 5, none⟩) (.inl HSQ.out) _
          · intro b hb
            rcases hb with hb | hb
            · exact hs9 b hb
            · rcases hat with ha | ha
              · rw [ha] at hb
                exact hs9 b (H9H.out.sz b hb)
              · rw [ha] at hb
                cases hb
                exact .inr (Nat.le_trans (Nat.le_trans HB8.out.size HFS9.out.1.size) (show w9.heap.size ≤ WX.heap.size from HXS.out)))
        clear H9H HKX HFRW HFS9 HK9N HNE
        go_upto_region 18 with (at_builtin; refine wpList_append_any _ rfl (.tmp 102) (.tmp 103) 39 rfl 0 61 iv _ 3 32 Try.underlying39 hv1 hv2 hv3 hv4 rfl (by omega) _ nf (fxs l9.fs) rfl HROW9.out _ A2 n c2 (fxs fs) rfl (Reads.of_own HFRX.out) (fxs_one fs) (by simp only [maxLen]; omega) (by omega) (Nat.zero_le _) ?_; intro v10 w10 hown10 hg10 hat10; obtain ⟨A10, c10, rfl⟩ := own_form hown10; (have HF10 := Lib.hid (HG0.out w10 A10 c10 hown10 hg10 hat10)); (have y5 : w10.cell? ⟨q, 5, none⟩ = some (.slice A9 l9.fs.length c9) := HF10.out.1.cell 5); (have r5 := HF10.out.1.frozen 5); clear hown10 hg10 hat10 HG0)
        generalize w10.setCell ⟨q, 5, none⟩ (.slice A10 (nf + n) c10) = WY at *
        clear y5 r5 x5
        obtain ⟨z1, z2, z3, z4, z5⟩ := HF10.out
        obtain ⟨p0, p1⟩ := pair_at z3
        obtain ⟨-, -, -, -, -, -, y6, y7, -⟩ := lg_cells z2
        have r6 := z2.blk.frozen 6
        have r7 := z2.blk.frozen 7
        have HFX := Lib.hid (show LgR w S g q d9 (N + 4) (appL l pg ims l9) ((WY.setCell ⟨q, 6, none⟩ (.int .u32 E1)).setCell ⟨q, 7, none⟩ (.int .u32 E2)) from by
          rw [HAL.out, ← HF9.out]
          exact ⟨_, ⟨_, _, _, lgAt_end z2 (E1, E2) HEF.out⟩, fr_set (fr_set z4 (p := ⟨q, 6, none⟩) (.inl HSQ.out) _) (p := ⟨q, 7, none⟩) (.inl HSQ.out) _, z5⟩)
        clear z1 z2 z3 z4 z5 HF10
        go_wp2
        go_ret
        exact ⟨rfl, HFX.out⟩
end Go.Proofs.Ythipaabjmlgjmaa
namespace Go.Proofs.Ythipaabjmlgjmaa
open Go.RowKit Go Go.Maps
set_option linter.unusedVariables false
set_option linter.unusedSimpArgs false
/-- what the last frame of a page tells -/
def frL (fs : List Fx) (n : Int) : Option ByteArray := (fs.reverse.find? (fun x => decide ((x.pg : Int) = n))).map (·.dt)
theorem frL_snoc (fs : List Fx) (x : Fx) (n : Int) : frL (fs ++ [x]) n = if (x.pg : Int) = n then some x.dt else frL fs n := by
  unfold frL
  rw [List.reverse_append, List.reverse_singleton, List.singleton_append, List.find?_cons]
  by_cases h : (x.pg : Int) = n
  · rw [decide_eq_true h, if_pos h]; rfl
  · rw [decide_eq_false h, if_neg h]
theorem own_fx {W : World} {base n c : Nat} {A : Option Addr} {fs : List Fx} (h : W.ownsRow base 61 3 (.slice A n c) n (fxs fs)) (hn : n = fs.length) {i : Nat} {x : Fx} (hx : fs[i]? = some x) : ∃ g, A = some ⟨g, 0, none⟩ ∧ W.cell? ⟨g, i * 3, none⟩ = some (.int .i64 x.pg) ∧ W.cell? ⟨g, i * 3 + 1, none⟩ = some (.int .i64 x.cm) ∧ W.cell? ⟨g, i * 3 + 2, none⟩ = some (.string x.dt) := by
  have hi : i < n := by
    rcases Nat.lt_or_ge i fs.length with h1 | h1
    · omega
    · rw [List.getElem?_eq_none h1] at hx; cases hx
  obtain ⟨g, rfl⟩ : ∃ g, A = some ⟨g, 0, none⟩ := by
    rcases h.2 with ⟨hv, h0⟩ | ⟨g, cap', cur, hv, _⟩
    · omega
    · simp only [Value.slice.injEq] at hv
      exact ⟨g, hv.1⟩
  obtain ⟨a, b, c⟩ := fxs_get fs i x hx
  exact ⟨g, rfl, by rw [h.cellAt (i * 3) (by omega)]; exact a, by rw [h.cellAt (i * 3 + 1) (by omega)]; exact b, by rw [h.cellAt (i * 3 + 2) (by omega)]; exact c⟩
def frV (o : Option ByteArray) : Value := match o with
  | some s => .tuple #[.string s, .bool true]
  | none => .tuple #[.string ⟨#[]⟩, .bool false]
set_option maxRecDepth 100000 in
set_option maxHeartbeats 8000000 in
theorem framed_any {S : Nat → Prop} {g q : Nat} {d : Dk} {N : Nat} {l : Lg} {w : World} (h : LgS w S g q d N l) (n : Int) (mark : Nat) (hm : mark ≤ l.fs.length) :
    Calls Try.prog 30 #[lp q, .int .i64 n, .int .i64 mark] w fun e w' => e = .returned (frV (frL (l.fs.take mark) n)) ∧ w = w' := by
  obtain ⟨Sd, A, c, h0⟩ := h
  obtain ⟨-, -, -, -, -, d5, -⟩ := lg_cells h0
  have HR := Lib.hid h0.row
  have hfb := h0.ub.2.2.2
  obtain ⟨nf, hnf⟩ : ∃ nf, nf = l.fs.length := ⟨_, rfl⟩
  rw [← hnf] at d5 HR
  have HNF := Lib.hid hnf
  have hmI : (mark : Int) ≤ 256 := by omega
  have hm0 : mark ≤ nf := by omega
  obtain ⟨V, hV⟩ : ∃ V, frV (frL (l.fs.take mark) n) = V := ⟨_, rfl⟩
  rw [hV]
  have HV := Lib.hid hV
  clear h0 hnf hm hV hfb
  have hwm : IntKind.i64.wrap ((mark : Int) - 1) = (mark : Int) - 1 := by rw [IntKind.wrap_i64]; omega
  go_enter Try.func30, Try.ntmps30
  go_wp2_with fail
  go_loopw [8] (fun i W => W = w ∧ ∃ j : Nat, j ≤ mark ∧ i = .int .i64 ((j : Int) - 1) ∧ V = frV (frL (l.fs.take j) n)) (fun i _ => ((intOf i) + 1).toNat)
  case atStart => exact ⟨rfl, mark, Nat.le_refl _, by first | rfl | (rw [hwm]), HV.out.symm⟩
  case round =>
    obtain ⟨rfl, j, hj, rfl, hVj⟩ := hrel
    have HVJ := Lib.hid hVj
    clear hVj
    cases j with
    | zero =>
      obtain rfl : V = .tuple #[.string ⟨#[]⟩, .bool false] := by rw [HVJ.out]; rfl
      have hneg : ¬ ((0 : Int) ≤ ((0 : Nat) : Int) - 1) := by omega
      clear HVJ HV
      go_wp2_with fail
      go_ret2
      exact ⟨rfl, rfl⟩
    | succ j =>
      have hpos : (0 : Int) ≤ (j : Int) := by omega
      have hcast : ((j + 1 : Nat) : Int) - 1 = (j : Int) := by omega
      rw [hcast]
      clear hcast
      have hlt : j < l.fs.length := by have := HNF.out; omega
      have hjn : (j : Int) < nf := by omega
      obtain ⟨x, hx⟩ : ∃ x, l.fs[j]? = some x := ⟨_, List.getElem?_eq_getElem hlt⟩
      obtain ⟨gb, rfl, c0, c1, c2⟩ := own_fx HR.out HNF.out hx
      have hsn : l.fs.take (j + 1) = l.fs.take j ++ [x] := by rw [List.take_add_one, hx]; rfl
      have hv2 := HVJ.out
      rw [hsn, frL_snoc] at hv2
      have hwj : IntKind.i64.wrap ((j : Int) - 1) = (j : Int) - 1 := by rw [IntKind.wrap_i64]; omega
      clear HVJ hsn hx hlt
      by_cases hpg : (x.pg : Int) = n
      · rw [if_pos hpg] at hv2
        subst hpg
        obtain rfl : V = .tuple #[.string x.dt, .bool true] := hv2
        go_wp2_with fail
        go_ret2
        exact ⟨rfl, rfl⟩
      · rw [if_neg hpg] at hv2
        have HV2 := Lib.hid hv2
        have hpb : ((x.pg : Int) == n) = false := by simp [hpg]
        clear hv2 hpg
        go_wp2_with fail
        go_roundw
        case rel => first | exact ⟨trivial, j, by omega, by first | rfl | (rw [hwj]), HV2.out⟩ | exact ⟨rfl, j, by omega, by first | rfl | (rw [hwj]), HV2.out⟩
        case measure => first | (simp [intOf]; done) | (simp [intOf]; omega)
/-- a page at a mark -/
def pageD (d : Dk) (l : Lg) (n mark : Int) : ByteArray × Int :=
  if n < 1 ∨ 256 < n ∨ mark < 0 ∨ (l.fs.length : Int) < mark then (⟨#[]⟩, 5)
  else match frL (l.fs.take mark.toNat) n with
  | some s => (s, 0)
  | none => if sizeD d 0 < n * 8 then (bstr (List.replicate 512 0), 0) else readD d 0 ((n - 1) * 8) 8
set_option maxRecDepth 100000 in
set_option maxHeartbeats 16000000 in
theorem page_any {S : Nat → Prop} {g q : Nat} {d : Dk} {N : Nat} {l : Lg} {w : World} (h : LgS w S g q d N l) (n mark : Int) :
    Calls Try.prog 12 #[lp q, .int .i64 n, .int .i64 mark] w fun e w' => e = .returned (.tuple #[.string (pageD d l n mark).1, .int .i64 (pageD d l n mark).2]) ∧ Below w.heap.size w w' := by
  have HS := Lib.hid h
  obtain ⟨Sd, A, c, h0⟩ := h
  obtain ⟨d0, -, -, -, -, d5, -⟩ := lg_cells h0
  have HDK := Lib.hid h0.dk
  have hfb := h0.ub.2.2.2
  obtain ⟨nf, hnf⟩ : ∃ nf, nf = l.fs.length := ⟨_, rfl⟩
  rw [← hnf] at d5 hfb
  have HNF := Lib.hid hnf
  have hnfI : (nf : Int) ≤ 256 := by omega
  obtain ⟨P, hP⟩ : ∃ P, pageD d l n mark = P := ⟨_, rfl⟩
  rw [hP]
  rw [pageD, ← hnf] at hP
  have HPB := Lib.hid (Below.refl w.heap.size w)
  clear hnf
  by_cases h1 : n < 1
  · rw [if_pos (.inl h1)] at hP
    subst hP
    go_enter Try.func12, Try.ntmps12
    go_wp2_with fail
    go_ret2
    exact ⟨rfl, HPB.out⟩
  by_cases h2 : 256 < n
  · rw [if_pos (.inr (.inl h2))] at hP
    subst hP
    go_enter Try.func12, Try.ntmps12
    go_wp2_with fail
    go_ret2
    exact ⟨rfl, HPB.out⟩
  by_cases h3 : mark < 0
  · rw [if_pos (.inr (.inr (.inl h3)))] at hP
    subst hP
    go_enter Try.func12, Try.ntmps12
    go_wp2_with fail
    go_ret2
    exact ⟨rfl, HPB.out⟩
  by_cases h4 : (nf : Int) < mark
  · rw [if_pos (.inr (.inr (.inr h4)))] at hP
    subst hP
    go_enter Try.func12, Try.ntmps12
    go_wp2_with fail
    go_ret2
    exact ⟨rfl, HPB.out⟩
  rw [if_neg (by omega)] at hP
  obtain ⟨mk, rfl⟩ : ∃ mk : Nat, mark = mk := ⟨mark.toNat, by omega⟩
  rw [show ((mk : Int)).toNat = mk from rfl] at hP
  have HFD := Lib.hid (framed_any HS.out n mk (by have := HNF.out; omega))
  obtain ⟨R, hR⟩ : ∃ R, frL (l.fs.take mk) n = R := ⟨_, rfl⟩
  rw [hR] at hP HFD
  clear hR
  have hw1 : IntKind.i64.wrap (n + 1) = n + 1 := by rw [IntKind.wrap_i64]; omega
  have HPA := Lib.hid (fun W => pageAt_any (n + 1) W (by omega) (by omega))
  rw [show (n + 1 - 1) * 8 = n * 8 by omega] at HPA
  have HPA2 := Lib.hid (fun W => pageAt_any n W (by omega) (by omega))
  have HSZ := Lib.hid (size_any Sd g d N 0 w HDK.out)
  cases R with
  | some s =>
    subst hP
    clear HPA HPA2 HSZ
    go_enter Try.func12, Try.ntmps12
    go_wp2_with fail
    refine (HFD.out).mono ?_
    rintro e w1 ⟨rfl, rfl⟩
    simp only [frV]
    go_wp2_with fail
    go_ret2
    exact ⟨rfl, HPB.out⟩
  | none =>
    simp only at hP
    by_cases hsz : sizeD d 0 < n * 8
    · rw [if_pos hsz] at hP
      subst hP
      clear HPA2
      have HNG := Lib.hid (wnoughts_any 512 w (by omega))
      go_enter Try.func12, Try.ntmps12
      go_wp2_with fail
      refine (HFD.out).mono ?_
      rintro e w1 ⟨rfl, rfl⟩
      simp only [frV]
      go_wp2_with fail
      refine (HSZ.out).mono ?_
      rintro e w1 ⟨rfl, rfl⟩
      go_wp2_with fail
      refine (HPA.out _).mono ?_
      rintro e w1 ⟨rfl, rfl⟩
      go_wp2_with fail
      refine (HNG.out).mono ?_
      rintro e w1 ⟨rfl, hb⟩
      go_wp2_with fail
      go_ret2
      exact ⟨rfl, hb⟩
    · rw [if_neg hsz] at hP
      have HRD := Lib.hid (fun W (hb : Below w.heap.size w W) => read_any Sd g d N 0 ((n - 1) * 8) 8 (by omega) W (dkS_below HDK.out hb))
      rw [hP] at HRD
      obtain ⟨s, z⟩ := P
      simp only at HRD
      clear hP
      go_enter Try.func12, Try.ntmps12
      go_wp2_with fail
      refine (HFD.out).mono ?_
      rintro e w1 ⟨rfl, rfl⟩
      simp only [frV]
      go_wp2_with fail
      refine (HSZ.out).mono ?_
      rintro e w1 ⟨rfl, rfl⟩
      go_wp2_with fail
      refine (HPA.out _).mono ?_
      rintro e w1 ⟨rfl, rfl⟩
      go_wp2_with fail
      have HC := Lib.hid (show ∀ W, Below w.heap.size w W → W.cell? ⟨q, 0, none⟩ = some (lp g) from fun W hb => by
        obtain ⟨_, _, _, hh⟩ := lgS_below HS.out hb
        exact (lg_cells hh).1)
      clear d0 d5 HFD HPA HSZ HS
      refine wp_region_noPanic ?_
      refine wp_region_any (by kernel_rfl) ?_
      refine facts_sw [0, 1, 2, 3, 4, 5, 6, 7, 8, 9, 10] (fun i => match i with | 1 => [0] | 2 => [1] | 3 => [2] | 5 => [4] | 6 => [3, 5] | 7 => [6] | 8 => [6] | 9 => [7] | 10 => [8] | _ => []) 99 99 (fun i v W => match i with | 0 => v = lp q | 1 => v = lp q | 2 => v = lp q | 3 => v = lp g | 4 => v = .int .i64 n | 5 => v = .int .i64 ((n - 1) * 8) | 6 => v = .tuple #[.string s, .int .i64 z] | 7 => v = .string s | 8 => v = .int .i64 z | 9 => v = .string s | 10 => v = .int .i64 z | _ => True) (fun W W' => Below W.heap.size W W') (fun _ _ W => Below w.drew.heap.size w.drew W) _ _ _ 0 _ #[true, true, true, true, true, true, true, true, true, true, true] (fun i v W W' h hs => match i, h with | 0, h => h | 1, h => h | 2, h => h | 3, h => h | 4, h => h | 5, h => h | 6, h => h | 7, h => h | 8, h => h | 9, h => h | 10, h => h | _ + 11, h => h) (by kernel_rfl) (by rfl) (Below.refl _ _) ?hstep ?hend
      case hstep =>
        intro i hi b_ c_ hbp hcq hbd hcd x W hd hI K hK
        simp only [List.mem_cons, List.not_mem_nil, or_false] at hi
        rcases hi with rfl | rfl | rfl | rfl | rfl | rfl | rfl | rfl | rfl | rfl | rfl
        · generalize hA : putsA _ _ x [0, 1, 2, 3, 4, 5, 6, 7, 8, 9, 10] = A_ at *
          have e0 : A_.tmps[0]? = some (lp q) := by rw [← hA]; exact putsA_at 0 _ (by decide +kernel)
          clear hA hd
          refine wpOp_step rfl (fun K' hK' => ?_)
          go_simp
          exact hK' _ _ (hK _ _ rfl (Below.refl _ _) hI)
        · generalize hA : putsA _ _ x [0, 1, 2, 3, 4, 5, 6, 7, 8, 9, 10] = A_ at *
          have e50 : A_.tmps[50]? = some (x 0) := by rw [← hA]; exact putsA_in (i := 0) 50 (by rfl) (by show (50 : Nat) < 59; decide) _ (by decide +kernel) (by decide)
          have f0 : x 0 = lp q := hd 0 (by decide)
          rw [f0] at e50
          clear hA hd
          refine wpOp_step rfl (fun K' hK' => ?_)
          go_simp
          exact hK' _ _ (hK _ _ rfl (Below.refl _ _) hI)
        · generalize hA : putsA _ _ x [0, 1, 2, 3, 4, 5, 6, 7, 8, 9, 10] = A_ at *
          have e51 : A_.tmps[51]? = some (x 1) := by rw [← hA]; exact putsA_in (i := 1) 51 (by rfl) (by show (51 : Nat) < 59; decide) _ (by decide +kernel) (by decide)
          have f1 : x 1 = lp q := hd 1 (by decide)
          rw [f1] at e51
          clear hA hd
          refine wpOp_step rfl (fun K' hK' => ?_)
          go_simp
          exact hK' _ _ (hK _ _ rfl (Below.refl _ _) hI)
        · generalize hA : putsA _ _ x [0, 1, 2, 3, 4, 5, 6, 7, 8, 9, 10] = A_ at *
          have e52 : A_.tmps[52]? = some (x 2) := by rw [← hA]; exact putsA_in (i := 2) 52 (by rfl) (by show (52 : Nat) < 59; decide) _ (by decide +kernel) (by decide)
          have f2 : x 2 = lp q := hd 2 (by decide)
          rw [f2] at e52
          clear hA hd
          have y0 := HC.out W (undrew hI)
          refine wpOp_step rfl (fun K' hK' => ?_)
          go_simp
          exact hK' _ _ (hK _ _ rfl (Below.refl _ _) hI)
        · generalize hA : putsA _ _ x [0, 1, 2, 3, 4, 5, 6, 7, 8, 9, 10] = A_ at *
          have e1 : A_.tmps[1]? = some (.int .i64 n) := by rw [← hA]; exact putsA_at 1 _ (by decide +kernel)
          clear hA hd
          refine wpOp_step rfl (fun K' hK' => ?_)
          go_simp
          exact hK' _ _ (hK _ _ rfl (Below.refl _ _) hI)
        · generalize hA : putsA _ _ x [0, 1, 2, 3, 4, 5, 6, 7, 8, 9, 10] = A_ at *
          have e54 : A_.tmps[54]? = some (x 4) := by rw [← hA]; exact putsA_in (i := 4) 54 (by rfl) (by show (54 : Nat) < 59; decide) _ (by decide +kernel) (by decide)
          have f4 : x 4 = .int .i64 n := hd 4 (by decide)
          rw [f4] at e54
          clear hA hd
          refine wpOp_step rfl (fun K' hK' => ?_)
          go_simp
          refine (HPA2.out W).mono ?_
          rintro e w6 ⟨rfl, rfl⟩
          exact hK' _ _ (hK _ _ rfl (Below.refl _ _) hI)
        · generalize hA : putsA _ _ x [0, 1, 2, 3, 4, 5, 6, 7, 8, 9, 10] = A_ at *
          have e53 : A_.tmps[53]? = some (x 3) := by rw [← hA]; exact putsA_in (i := 3) 53 (by rfl) (by show (53 : Nat) < 59; decide) _ (by decide +kernel) (by decide)
          have f3 : x 3 = lp g := hd 3 (by decide)
          rw [f3] at e53
          have e55 : A_.tmps[55]? = some (x 5) := by rw [← hA]; exact putsA_in (i := 5) 55 (by rfl) (by show (55 : Nat) < 59; decide) _ (by decide +kernel) (by decide)
          have f5 : x 5 = .int .i64 ((n - 1) * 8) := hd 5 (by decide)
          rw [f5] at e55
          clear hA hd
          refine wpOp_step rfl (fun K' hK' => ?_)
          go_simp
          refine (HRD.out W (undrew hI)).mono ?_
          rintro e w6 ⟨rfl, hb6⟩
          exact hK' _ _ (hK _ _ rfl hb6 (bj hI hb6))
        · generalize hA : putsA _ _ x [0, 1, 2, 3, 4, 5, 6, 7, 8, 9, 10] = A_ at *
          have e56 : A_.tmps[56]? = some (x 6) := by rw [← hA]; exact putsA_in (i := 6) 56 (by rfl) (by show (56 : Nat) < 59; decide) _ (by decide +kernel) (by decide)
          have f6 : x 6 = .tuple #[.string s, .int .i64 z] := hd 6 (by decide)
          rw [f6] at e56
          clear hA hd
          refine wpOp_step rfl (fun K' hK' => ?_)
          go_simp
          exact hK' _ _ (hK _ _ rfl (Below.refl _ _) hI)
        · generalize hA : putsA _ _ x [0, 1, 2, 3, 4, 5, 6, 7, 8, 9, 10] = A_ at *
          have e56 : A_.tmps[56]? = some (x 6) := by rw [← hA]; exact putsA_in (i := 6) 56 (by rfl) (by show (56 : Nat) < 59; decide) _ (by decide +kernel) (by decide)
          have f6 : x 6 = .tuple #[.string s, .int .i64 z] := hd 6 (by decide)
          rw [f6] at e56
          clear hA hd
          refine wpOp_step rfl (fun K' hK' => ?_)
          go_simp
          exact hK' _ _ (hK _ _ rfl (Below.refl _ _) hI)
        · generalize hA : putsA _ _ x [0, 1, 2, 3, 4, 5, 6, 7, 8, 9, 10] = A_ at *
          have e57 : A_.tmps[57]? = some (x 7) := by rw [← hA]; exact putsA_in (i := 7) 57 (by rfl) (by show (57 : Nat) < 59; decide) _ (by decide +kernel) (by decide)
          have f7 : x 7 = .string s := hd 7 (by decide)
          rw [f7] at e57
          clear hA hd
          refine wpOp_step rfl (fun K' hK' => ?_)
          go_simp
          exact hK' _ _ (hK _ _ rfl (Below.refl _ _) hI)
        · generalize hA : putsA _ _ x [0, 1, 2, 3, 4, 5, 6, 7, 8, 9, 10] = A_ at *
          have e58 : A_.tmps[58]? = some (x 8) := by rw [← hA]; exact putsA_in (i := 8) 58 (by rfl) (by show (58 : Nat) < 59; decide) _ (by decide +kernel) (by decide)
          have f8 : x 8 = .int .i64 z := hd 8 (by decide)
          rw [f8] at e58
          clear hA hd
          refine wpOp_step rfl (fun K' hK' => ?_)
          go_simp
          exact hK' _ _ (hK _ _ rfl (Below.refl _ _) hI)
      case hend =>
        intro x W b_ c_ hf hpf hqf hI
        have f0 : x 0 = lp q := hf 0 (by decide)
        have f1 : x 1 = lp q := hf 1 (by decide)
        have f2 : x 2 = lp q := hf 2 (by decide)
        have f3 : x 3 = lp g := hf 3 (by decide)
        have f4 : x 4 = .int .i64 n := hf 4 (by decide)
        have f5 : x 5 = .int .i64 ((n - 1) * 8) := hf 5 (by decide)
        have f6 : x 6 = .tuple #[.string s, .int .i64 z] := hf 6 (by decide)
        have f7 : x 7 = .string s := hf 7 (by decide)
        have f8 : x 8 = .int .i64 z := hf 8 (by decide)
        have f9 : x 9 = .string s := hf 9 (by decide)
        have f10 : x 10 = .int .i64 z := hf 10 (by decide)
        rw [putsA_lit _ _ [0, 1, 2, 3, 4, 5, 6, 7, 8, 9, 10] ((6, 9) :: (7, 10) :: (50, 0) :: (51, 1) :: (52, 2) :: (53, 3) :: (54, 4) :: (55, 5) :: (56, 6) :: (57, 7) :: (58, 8) :: []) (by kernel_rfl)]
        simp only [setAll, ↓reduceIte, Nat.reduceAdd, Nat.reduceEqDiff]
        rw [f0, f1, f2, f3, f4, f5, f6, f7, f8, f9, f10]
        clear hf hpf hqf f0 f1 f2 f3 f4 f5 f6 f7 f8 f9 f10
        refine wpAny_done (by kernel_rfl) ?_ _
        refine NoPanic.normal ?_
        have HB := Lib.hid (undrew hI)
        clear hI x
        go_wp2_with fail
        go_ret2
        exact ⟨rfl, HB.out⟩
end Go.Proofs.Ythipaabjmlgjmaa
