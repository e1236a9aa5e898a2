/- Layer 13: ref13.One. Conditions: those of each lemma. -/
import Derived.Test.YtibnmkjabpoppaaGreatDoorLx24
namespace Go.Proofs.YtibnmkjabpoppaaGreatDoor
open Go Go.RowKit
set_option linter.unusedVariables false
set_option linter.unusedSimpArgs false

theorem anR_form (A : An) : ∃ (k n : Nat) (x : ByteArray) (a q e sp : Int), anR A = .tuple #[tokV k x n a, .int .i64 q, spotV e sp] := by
  cases A with
  | bad e q => exact ⟨0, 0, ⟨#[]⟩, 0, 0, e, q, rfl⟩
  | ok k x n p q => exact ⟨k, n, x, p, q, 0, 0, rfl⟩
theorem rin_lit (l : List ByteArray) (m : Nat) (hm : l.length = m) (hm2 : m ≤ 1000) (s : ByteArray) (T : TypeId) (W : World) : Calls Tryz.prog 35 #[.slice (some ⟨W.heap.size, 0, none⟩) m m, .string s] (W.alloc (.cells (l.map Value.string).toArray T)) fun e w' => e = .returned (.bool (isIn l s)) ∧ Below W.heap.size W w' := by
  refine (rin_any l W.heap.size m m s (W.alloc (.cells (l.map Value.string).toArray T)) hm hm2 (fun j x hx => ?_)).mono ?_
  · have h := (Blk.new W T ((l.map Value.string).toArray)).cell j
    rw [List.getElem?_toArray, List.getElem?_map, hx] at h
    exact h
  · rintro e w' ⟨rfl, rfl⟩
    exact ⟨rfl, one_alloc⟩
theorem rin2 (s : ByteArray) (W : World) (g : Nat) (hg : W.heap.size = g) : Calls Tryz.prog 35 #[.slice (some ⟨g, 0, none⟩) 4 4, .string s] (W.alloc (.cells #[.string ⟨#[60, 62]⟩, .string ⟨#[60, 61]⟩, .string ⟨#[62, 61]⟩, .string ⟨#[124, 124]⟩] 9)) fun e w' => e = .returned (.bool (isIn signs2 s)) ∧ Below W.heap.size W w' := by
  subst hg
  exact rin_lit signs2 4 rfl (by omega) s 9 W
theorem rin1 (s : ByteArray) (W : World) (g : Nat) (hg : W.heap.size = g) : Calls Tryz.prog 35 #[.slice (some ⟨g, 0, none⟩) 13 13, .string s] (W.alloc (.cells #[.string ⟨#[40]⟩, .string ⟨#[41]⟩, .string ⟨#[44]⟩, .string ⟨#[46]⟩, .string ⟨#[42]⟩, .string ⟨#[43]⟩, .string ⟨#[45]⟩, .string ⟨#[47]⟩, .string ⟨#[37]⟩, .string ⟨#[61]⟩, .string ⟨#[60]⟩, .string ⟨#[62]⟩, .string ⟨#[59]⟩] 9)) fun e w' => e = .returned (.bool (isIn signs1 s)) ∧ Below W.heap.size W w' := by
  subst hg
  exact rin_lit signs1 13 rfl (by omega) s 9 W
set_option maxRecDepth 100000 in
set_option maxHeartbeats 8000000 in
theorem rone_text (S : ByteArray) (p : Nat) (w : World) (hp : p < S.size) (hS : S.size ≤ 140737488351232) (h : atB S p = 39) : Calls Tryz.prog 14 #[.string S, .int .i64 p] w fun r w' => r = .returned (anR (textA S p)) ∧ Below w.heap.size w w' := by
  have hSI : (S.size : Int) ≤ 140737488351232 := by omega
  have hpI : (p : Int) < S.size := by omega
  have HN := Lib.hid (rq_new w)
  have hx0 := atB_at S p hp
  have HC := Lib.hid (fun W => rtext_any S p W hp hS)
  obtain ⟨k, n, x, a, q, e, sp, hA⟩ := anR_form (textA S p)
  have HRES := Lib.hid hA
  rw [hA] at HC
  rw [h] at hx0
  clear h hA
  go_enter Tryz.func14, Tryz.ntmps14
  go_wp2_with fail
  refine (HC.out _).mono ?_
  rintro e9 w9 ⟨rfl, hb9⟩
  have HA9 := Lib.hid (Blk.below HN.out.2.1 hb9 (Blk.lt HN.out.2.1))
  have HB9 := Lib.hid (Blk.below HN.out.2.2.1 hb9 (Blk.lt HN.out.2.2.1))
  have HX9 := Lib.hid (below_low HN.out.2.2.2.1 HN.out.2.2.2.1.size hb9)
  clear hb9
  obtain ⟨d0, d1, d2, d3⟩ := cell2b HB9.out
  obtain ⟨b0, b1, b2, b3⟩ := cell4b HA9.out
  have e0 := (HA9.out).frozen 0
  have e1 := (HA9.out).frozen 1
  have e2 := (HA9.out).frozen 2
  have e3 := (HA9.out).frozen 3
  unfold tokV spotV
  go_wp2
  obtain ⟨hA, hB⟩ := two_set HA9.out HB9.out (by omega) (.int .u8 k) (.string x) (.int .u64 n) (.int .i64 a) (.int .i64 e) (.int .i64 sp)
  have HB6 := Lib.hid (two_below (g := w.heap.size) (h := w.heap.size + 1) HX9.out (Nat.le_refl _) (Nat.le_succ _) (.int .u8 k) (.string x) (.int .u64 n) (.int .i64 a) (.int .i64 e) (.int .i64 sp))
  clear d0 d1 d2 d3 b0 b1 b2 b3 e0 e1 e2 e3
  obtain ⟨d0, d1, _, _⟩ := cell2b hB
  obtain ⟨c0, c1, c2, c3⟩ := cell4b hA
  refine bodyPost_ret (v := .tuple #[tokV k x n a, .int .i64 q, spotV e sp]) ?_ rfl ?_
  · simp [results, Tryz.results14, go_sem, c0, c1, c2, c3, d0, d1, tokV, spotV]
  · exact ⟨by rw [HRES.out], HB6.out⟩
set_option maxRecDepth 100000 in
set_option maxHeartbeats 8000000 in
theorem rone_blob (S : ByteArray) (p : Nat) (w : World) (hp : p < S.size) (hS : S.size ≤ 140737488351232) (h : atB S p = 120) (h2 : atB S (p + 1) = 39) : Calls Tryz.prog 14 #[.string S, .int .i64 p] w fun r w' => r = .returned (anR (blobA S p)) ∧ Below w.heap.size w w' := by
  have hSI : (S.size : Int) ≤ 140737488351232 := by omega
  have hpI : (p : Int) < S.size := by omega
  have HN := Lib.hid (rq_new w)
  have hx0 := atB_at S p hp
  have HC := Lib.hid (fun W => rblob_any S p W (in_of_39 h2) hS)
  obtain ⟨k, n, x, a, q, e, sp, hA⟩ := anR_form (blobA S p)
  have HRES := Lib.hid hA
  rw [hA] at HC
  have had : ∀ W, Calls Tryz.prog 28 #[.string S, .int .i64 ((p : Int) + 1)] W fun e w' => e = .returned (.int .u8 (atB S (p + 1))) ∧ W = w' := fun W => rAt_any S (p + 1) W
  rw [h] at hx0
  rw [h2] at had
  have HAD := Lib.hid had
  clear h h2 hA had
  go_enter Tryz.func14, Tryz.ntmps14
  go_wp2_with fail
  refine (HAD.out _).mono ?_
  rintro e8 w8 ⟨rfl, hw8⟩
  have HN := Lib.hid (show Rq w [] (.slice none 0 0) w8 from hw8 ▸ HN.out)
  clear hw8
  go_wp2_with fail
  refine (HC.out _).mono ?_
  rintro e9 w9 ⟨rfl, hb9⟩
  have HA9 := Lib.hid (Blk.below HN.out.2.1 hb9 (Blk.lt HN.out.2.1))
  have HB9 := Lib.hid (Blk.below HN.out.2.2.1 hb9 (Blk.lt HN.out.2.2.1))
  have HX9 := Lib.hid (below_low HN.out.2.2.2.1 HN.out.2.2.2.1.size hb9)
  clear hb9
  obtain ⟨d0, d1, d2, d3⟩ := cell2b HB9.out
  obtain ⟨b0, b1, b2, b3⟩ := cell4b HA9.out
  have e0 := (HA9.out).frozen 0
  have e1 := (HA9.out).frozen 1
  have e2 := (HA9.out).frozen 2
  have e3 := (HA9.out).frozen 3
  unfold tokV spotV
  go_wp2
  obtain ⟨hA, hB⟩ := two_set HA9.out HB9.out (by omega) (.int .u8 k) (.string x) (.int .u64 n) (.int .i64 a) (.int .i64 e) (.int .i64 sp)
  have HB6 := Lib.hid (two_below (g := w.heap.size) (h := w.heap.size + 1) HX9.out (Nat.le_refl _) (Nat.le_succ _) (.int .u8 k) (.string x) (.int .u64 n) (.int .i64 a) (.int .i64 e) (.int .i64 sp))
  clear d0 d1 d2 d3 b0 b1 b2 b3 e0 e1 e2 e3
  obtain ⟨d0, d1, _, _⟩ := cell2b hB
  obtain ⟨c0, c1, c2, c3⟩ := cell4b hA
  refine bodyPost_ret (v := .tuple #[tokV k x n a, .int .i64 q, spotV e sp]) ?_ rfl ?_
  · simp [results, Tryz.results14, go_sem, c0, c1, c2, c3, d0, d1, tokV, spotV]
  · exact ⟨by rw [HRES.out], HB6.out⟩
set_option maxRecDepth 100000 in
set_option maxHeartbeats 8000000 in
theorem rone_name (S : ByteArray) (p : Nat) (w : World) (hp : p < S.size) (hS : S.size ≤ 140737488351232) (hn39 : ¬ atB S p = 39) (hn2 : ¬ (atB S p = 120 ∧ atB S (p + 1) = 39)) (hs : smaB (atB S p : Int) = true) (hcap : capB (atB S p : Int) = false) : Calls Tryz.prog 14 #[.string S, .int .i64 p] w fun r w' => r = .returned (anR (nameA S p)) ∧ Below w.heap.size w w' := by
  have hSI : (S.size : Int) ≤ 140737488351232 := by omega
  have hpI : (p : Int) < S.size := by omega
  have HN := Lib.hid (rq_new w)
  have hx0 := atB_at S p hp
  have HC := Lib.hid (fun W => rwordsS_any S p W hp hcap hS)
  have e1 := anR_name S p
  rw [e1] at HC
  obtain ⟨k, n, x, a, q, e, sp, hA⟩ := anR_form (nameA S p)
  have HRES := Lib.hid hA
  rw [hA] at HC
  have had : ∀ W, Calls Tryz.prog 28 #[.string S, .int .i64 ((p : Int) + 1)] W fun e w' => e = .returned (.int .u8 (atB S (p + 1))) ∧ W = w' := fun W => rAt_any S (p + 1) W
  obtain ⟨d, hd⟩ : ∃ d, atB S (p + 1) = d := ⟨_, rfl⟩
  obtain ⟨c, hc⟩ : ∃ c, atB S p = c := ⟨_, rfl⟩
  rw [hd] at had hn2
  rw [hc] at hx0 hn39 hn2
  have HAD := Lib.hid had
  have hsm := fun W => rsma_any (atB S p : Int) W
  rw [hs, hc] at hsm
  have HSM := Lib.hid hsm
  clear had hd hc hs hcap hsm hA e1
  by_cases h120 : c = 120
  · subst h120
    have hdb : ((d : Int) == 39) = false := beq_no13 (fun e => hn2 ⟨rfl, by omega⟩)
    clear hn2 hn39
    go_enter Tryz.func14, Tryz.ntmps14
    go_wp2_with fail
    refine (HAD.out _).mono ?_
    rintro e8 w8 ⟨rfl, hw8⟩
    have HN := Lib.hid (show Rq w [] (.slice none 0 0) w8 from hw8 ▸ HN.out)
    clear hw8
    go_wp2_with fail
    refine (HSM.out _).mono ?_
    rintro e7 w7 ⟨rfl, hw7⟩
    have HN := Lib.hid (show Rq w [] (.slice none 0 0) w7 from hw7 ▸ HN.out)
    clear hw7
    go_wp2_with fail
    refine (HC.out _).mono ?_
    rintro e9 w9 ⟨rfl, hb9⟩
    have HA9 := Lib.hid (Blk.below HN.out.2.1 hb9 (Blk.lt HN.out.2.1))
    have HB9 := Lib.hid (Blk.below HN.out.2.2.1 hb9 (Blk.lt HN.out.2.2.1))
    have HX9 := Lib.hid (below_low HN.out.2.2.2.1 HN.out.2.2.2.1.size hb9)
    clear hb9
    obtain ⟨d0, d1, d2, d3⟩ := cell2b HB9.out
    obtain ⟨b0, b1, b2, b3⟩ := cell4b HA9.out
    have e0 := (HA9.out).frozen 0
    have e1 := (HA9.out).frozen 1
    have e2 := (HA9.out).frozen 2
    have e3 := (HA9.out).frozen 3
    unfold tokV spotV
    go_wp2
    obtain ⟨hA, hB⟩ := two_set HA9.out HB9.out (by omega) (.int .u8 k) (.string x) (.int .u64 n) (.int .i64 a) (.int .i64 e) (.int .i64 sp)
    have HB6 := Lib.hid (two_below (g := w.heap.size) (h := w.heap.size + 1) HX9.out (Nat.le_refl _) (Nat.le_succ _) (.int .u8 k) (.string x) (.int .u64 n) (.int .i64 a) (.int .i64 e) (.int .i64 sp))
    clear d0 d1 d2 d3 b0 b1 b2 b3 e0 e1 e2 e3
    obtain ⟨d0, d1, _, _⟩ := cell2b hB
    obtain ⟨c0, c1, c2, c3⟩ := cell4b hA
    refine bodyPost_ret (v := .tuple #[tokV k x n a, .int .i64 q, spotV e sp]) ?_ rfl ?_
    · simp [results, Tryz.results14, go_sem, c0, c1, c2, c3, d0, d1, tokV, spotV]
    · exact ⟨by rw [HRES.out], HB6.out⟩
  · have hcb : ((c : Int) == 120) = false := beq_no13 (by omega)
    have hcb2 : ((c : Int) == 39) = false := beq_no13 (by omega)
    clear hn2 h120 hn39
    go_enter Tryz.func14, Tryz.ntmps14
    go_wp2_with fail
    refine (HSM.out _).mono ?_
    rintro e7 w7 ⟨rfl, hw7⟩
    have HN := Lib.hid (show Rq w [] (.slice none 0 0) w7 from hw7 ▸ HN.out)
    clear hw7
    go_wp2_with fail
    refine (HC.out _).mono ?_
    rintro e9 w9 ⟨rfl, hb9⟩
    have HA9 := Lib.hid (Blk.below HN.out.2.1 hb9 (Blk.lt HN.out.2.1))
    have HB9 := Lib.hid (Blk.below HN.out.2.2.1 hb9 (Blk.lt HN.out.2.2.1))
    have HX9 := Lib.hid (below_low HN.out.2.2.2.1 HN.out.2.2.2.1.size hb9)
    clear hb9
    obtain ⟨d0, d1, d2, d3⟩ := cell2b HB9.out
    obtain ⟨b0, b1, b2, b3⟩ := cell4b HA9.out
    have e0 := (HA9.out).frozen 0
    have e1 := (HA9.out).frozen 1
    have e2 := (HA9.out).frozen 2
    have e3 := (HA9.out).frozen 3
    unfold tokV spotV
    go_wp2
    obtain ⟨hA, hB⟩ := two_set HA9.out HB9.out (by omega) (.int .u8 k) (.string x) (.int .u64 n) (.int .i64 a) (.int .i64 e) (.int .i64 sp)
    have HB6 := Lib.hid (two_below (g := w.heap.size) (h := w.heap.size + 1) HX9.out (Nat.le_refl _) (Nat.le_succ _) (.int .u8 k) (.string x) (.int .u64 n) (.int .i64 a) (.int .i64 e) (.int .i64 sp))
    clear d0 d1 d2 d3 b0 b1 b2 b3 e0 e1 e2 e3
    obtain ⟨d0, d1, _, _⟩ := cell2b hB
    obtain ⟨c0, c1, c2, c3⟩ := cell4b hA
    refine bodyPost_ret (v := .tuple #[tokV k x n a, .int .i64 q, spotV e sp]) ?_ rfl ?_
    · simp [results, Tryz.results14, go_sem, c0, c1, c2, c3, d0, d1, tokV, spotV]
    · exact ⟨by rw [HRES.out], HB6.out⟩
set_option maxRecDepth 100000 in
set_option maxHeartbeats 8000000 in
theorem rone_word (S : ByteArray) (p : Nat) (w : World) (hp : p < S.size) (hS : S.size ≤ 140737488351232) (hn39 : ¬ atB S p = 39) (hn2 : ¬ (atB S p = 120 ∧ atB S (p + 1) = 39)) (hs : smaB (atB S p : Int) = false) (hcap : capB (atB S p : Int) = true) : Calls Tryz.prog 14 #[.string S, .int .i64 p] w fun r w' => r = .returned (anR (wordA S p)) ∧ Below w.heap.size w w' := by
  have hSI : (S.size : Int) ≤ 140737488351232 := by omega
  have hpI : (p : Int) < S.size := by omega
  have HN := Lib.hid (rq_new w)
  have hx0 := atB_at S p hp
  have HC := Lib.hid (fun W => rwordsC_any S p W hp hcap hS)
  have e1 := anR_word S p
  rw [e1] at HC
  obtain ⟨k, n, x, a, q, e, sp, hA⟩ := anR_form (wordA S p)
  have HRES := Lib.hid hA
  rw [hA] at HC
  have had : ∀ W, Calls Tryz.prog 28 #[.string S, .int .i64 ((p : Int) + 1)] W fun e w' => e = .returned (.int .u8 (atB S (p + 1))) ∧ W = w' := fun W => rAt_any S (p + 1) W
  obtain ⟨d, hd⟩ : ∃ d, atB S (p + 1) = d := ⟨_, rfl⟩
  obtain ⟨c, hc⟩ : ∃ c, atB S p = c := ⟨_, rfl⟩
  rw [hd] at had hn2
  rw [hc] at hx0 hn39 hn2
  have HAD := Lib.hid had
  have hsm := fun W => rsma_any (atB S p : Int) W
  have hcp := fun W => rcap_any (atB S p : Int) W
  rw [hs, hc] at hsm
  rw [hcap, hc] at hcp
  have HSM := Lib.hid hsm
  have HCP := Lib.hid hcp
  clear had hd hc hs hcap hsm hcp hA e1
  by_cases h120 : c = 120
  · subst h120
    have hdb : ((d : Int) == 39) = false := beq_no13 (fun e => hn2 ⟨rfl, by omega⟩)
    clear hn2 hn39
    go_enter Tryz.func14, Tryz.ntmps14
    go_wp2_with fail
    refine (HAD.out _).mono ?_
    rintro e8 w8 ⟨rfl, hw8⟩
    have HN := Lib.hid (show Rq w [] (.slice none 0 0) w8 from hw8 ▸ HN.out)
    clear hw8
    go_wp2_with fail
    refine (HSM.out _).mono ?_
    rintro e7 w7 ⟨rfl, hw7⟩
    have HN := Lib.hid (show Rq w [] (.slice none 0 0) w7 from hw7 ▸ HN.out)
    clear hw7
    go_wp2_with fail
    refine (HCP.out _).mono ?_
    rintro e7 w7 ⟨rfl, hw7⟩
    have HN := Lib.hid (show Rq w [] (.slice none 0 0) w7 from hw7 ▸ HN.out)
    clear hw7
    go_wp2_with fail
    refine (HC.out _).mono ?_
    rintro e9 w9 ⟨rfl, hb9⟩
    have HA9 := Lib.hid (Blk.below HN.out.2.1 hb9 (Blk.lt HN.out.2.1))
    have HB9 := Lib.hid (Blk.below HN.out.2.2.1 hb9 (Blk.lt HN.out.2.2.1))
    have HX9 := Lib.hid (below_low HN.out.2.2.2.1 HN.out.2.2.2.1.size hb9)
    clear hb9
    obtain ⟨d0, d1, d2, d3⟩ := cell2b HB9.out
    obtain ⟨b0, b1, b2, b3⟩ := cell4b HA9.out
    have e0 := (HA9.out).frozen 0
    have e1 := (HA9.out).frozen 1
    have e2 := (HA9.out).frozen 2
    have e3 := (HA9.out).frozen 3
    unfold tokV spotV
    go_wp2
    obtain ⟨hA, hB⟩ := two_set HA9.out HB9.out (by omega) (.int .u8 k) (.string x) (.int .u64 n) (.int .i64 a) (.int .i64 e) (.int .i64 sp)
    have HB6 := Lib.hid (two_below (g := w.heap.size) (h := w.heap.size + 1) HX9.out (Nat.le_refl _) (Nat.le_succ _) (.int .u8 k) (.string x) (.int .u64 n) (.int .i64 a) (.int .i64 e) (.int .i64 sp))
    clear d0 d1 d2 d3 b0 b1 b2 b3 e0 e1 e2 e3
    obtain ⟨d0, d1, _, _⟩ := cell2b hB
    obtain ⟨c0, c1, c2, c3⟩ := cell4b hA
    refine bodyPost_ret (v := .tuple #[tokV k x n a, .int .i64 q, spotV e sp]) ?_ rfl ?_
    · simp [results, Tryz.results14, go_sem, c0, c1, c2, c3, d0, d1, tokV, spotV]
    · exact ⟨by rw [HRES.out], HB6.out⟩
  · have hcb : ((c : Int) == 120) = false := beq_no13 (by omega)
    have hcb2 : ((c : Int) == 39) = false := beq_no13 (by omega)
    clear hn2 h120 hn39
    go_enter Tryz.func14, Tryz.ntmps14
    go_wp2_with fail
    refine (HSM.out _).mono ?_
    rintro e7 w7 ⟨rfl, hw7⟩
    have HN := Lib.hid (show Rq w [] (.slice none 0 0) w7 from hw7 ▸ HN.out)
    clear hw7
    go_wp2_with fail
    refine (HCP.out _).mono ?_
    rintro e7 w7 ⟨rfl, hw7⟩
    have HN := Lib.hid (show Rq w [] (.slice none 0 0) w7 from hw7 ▸ HN.out)
    clear hw7
    go_wp2_with fail
    refine (HC.out _).mono ?_
    rintro e9 w9 ⟨rfl, hb9⟩
    have HA9 := Lib.hid (Blk.below HN.out.2.1 hb9 (Blk.lt HN.out.2.1))
    have HB9 := Lib.hid (Blk.below HN.out.2.2.1 hb9 (Blk.lt HN.out.2.2.1))
    have HX9 := Lib.hid (below_low HN.out.2.2.2.1 HN.out.2.2.2.1.size hb9)
    clear hb9
    obtain ⟨d0, d1, d2, d3⟩ := cell2b HB9.out
    obtain ⟨b0, b1, b2, b3⟩ := cell4b HA9.out
    have e0 := (HA9.out).frozen 0
    have e1 := (HA9.out).frozen 1
    have e2 := (HA9.out).frozen 2
    have e3 := (HA9.out).frozen 3
    unfold tokV spotV
    go_wp2
    obtain ⟨hA, hB⟩ := two_set HA9.out HB9.out (by omega) (.int .u8 k) (.string x) (.int .u64 n) (.int .i64 a) (.int .i64 e) (.int .i64 sp)
    have HB6 := Lib.hid (two_below (g := w.heap.size) (h := w.heap.size + 1) HX9.out (Nat.le_refl _) (Nat.le_succ _) (.int .u8 k) (.string x) (.int .u64 n) (.int .i64 a) (.int .i64 e) (.int .i64 sp))
    clear d0 d1 d2 d3 b0 b1 b2 b3 e0 e1 e2 e3
    obtain ⟨d0, d1, _, _⟩ := cell2b hB
    obtain ⟨c0, c1, c2, c3⟩ := cell4b hA
    refine bodyPost_ret (v := .tuple #[tokV k x n a, .int .i64 q, spotV e sp]) ?_ rfl ?_
    · simp [results, Tryz.results14, go_sem, c0, c1, c2, c3, d0, d1, tokV, spotV]
    · exact ⟨by rw [HRES.out], HB6.out⟩
set_option maxRecDepth 100000 in
set_option maxHeartbeats 8000000 in
theorem rone_num (S : ByteArray) (p : Nat) (w : World) (hp : p < S.size) (hS : S.size ≤ 140737488351232) (hn39 : ¬ atB S p = 39) (hn2 : ¬ (atB S p = 120 ∧ atB S (p + 1) = 39)) (hs : smaB (atB S p : Int) = false) (hcap : capB (atB S p : Int) = false) (hdig : digB (atB S p : Int) = true) : Calls Tryz.prog 14 #[.string S, .int .i64 p] w fun r w' => r = .returned (anR (numA S p)) ∧ Below w.heap.size w w' := by
  have hSI : (S.size : Int) ≤ 140737488351232 := by omega
  have hpI : (p : Int) < S.size := by omega
  have HN := Lib.hid (rq_new w)
  have hx0 := atB_at S p hp
  have HC := Lib.hid (fun W => rnumber_any S p W hp hdig hS)
  obtain ⟨k, n, x, a, q, e, sp, hA⟩ := anR_form (numA S p)
  have HRES := Lib.hid hA
  rw [hA] at HC
  have had : ∀ W, Calls Tryz.prog 28 #[.string S, .int .i64 ((p : Int) + 1)] W fun e w' => e = .returned (.int .u8 (atB S (p + 1))) ∧ W = w' := fun W => rAt_any S (p + 1) W
  obtain ⟨d, hd⟩ : ∃ d, atB S (p + 1) = d := ⟨_, rfl⟩
  obtain ⟨c, hc⟩ : ∃ c, atB S p = c := ⟨_, rfl⟩
  rw [hd] at had hn2
  rw [hc] at hx0 hn39 hn2
  have HAD := Lib.hid had
  have hsm := fun W => rsma_any (atB S p : Int) W
  have hcp := fun W => rcap_any (atB S p : Int) W
  have hdg := fun W => rdig_any (atB S p : Int) W
  rw [hs, hc] at hsm
  rw [hcap, hc] at hcp
  rw [hdig, hc] at hdg
  have HSM := Lib.hid hsm
  have HCP := Lib.hid hcp
  have HDG := Lib.hid hdg
  clear had hd hc hs hcap hsm hcp hA hdg hdig
  by_cases h120 : c = 120
  · subst h120
    have hdb : ((d : Int) == 39) = false := beq_no13 (fun e => hn2 ⟨rfl, by omega⟩)
    clear hn2 hn39
    go_enter Tryz.func14, Tryz.ntmps14
    go_wp2_with fail
    refine (HAD.out _).mono ?_
    rintro e8 w8 ⟨rfl, hw8⟩
    have HN := Lib.hid (show Rq w [] (.slice none 0 0) w8 from hw8 ▸ HN.out)
    clear hw8
    go_wp2_with fail
    refine (HSM.out _).mono ?_
    rintro e7 w7 ⟨rfl, hw7⟩
    have HN := Lib.hid (show Rq w [] (.slice none 0 0) w7 from hw7 ▸ HN.out)
    clear hw7
    go_wp2_with fail
    refine (HCP.out _).mono ?_
    rintro e7 w7 ⟨rfl, hw7⟩
    have HN := Lib.hid (show Rq w [] (.slice none 0 0) w7 from hw7 ▸ HN.out)
    clear hw7
    go_wp2_with fail
    refine (HDG.out _).mono ?_
    rintro e7 w7 ⟨rfl, hw7⟩
    have HN := Lib.hid (show Rq w [] (.slice none 0 0) w7 from hw7 ▸ HN.out)
    clear hw7
    go_wp2_with fail
    refine (HC.out _).mono ?_
    rintro e9 w9 ⟨rfl, hb9⟩
    have HA9 := Lib.hid (Blk.below HN.out.2.1 hb9 (Blk.lt HN.out.2.1))
    have HB9 := Lib.hid (Blk.below HN.out.2.2.1 hb9 (Blk.lt HN.out.2.2.1))
    have HX9 := Lib.hid (below_low HN.out.2.2.2.1 HN.out.2.2.2.1.size hb9)
    clear hb9
    obtain ⟨d0, d1, d2, d3⟩ := cell2b HB9.out
    obtain ⟨b0, b1, b2, b3⟩ := cell4b HA9.out
    have e0 := (HA9.out).frozen 0
    have e1 := (HA9.out).frozen 1
    have e2 := (HA9.out).frozen 2
    have e3 := (HA9.out).frozen 3
    unfold tokV spotV
    go_wp2
    obtain ⟨hA, hB⟩ := two_set HA9.out HB9.out (by omega) (.int .u8 k) (.string x) (.int .u64 n) (.int .i64 a) (.int .i64 e) (.int .i64 sp)
    have HB6 := Lib.hid (two_below (g := w.heap.size) (h := w.heap.size + 1) HX9.out (Nat.le_refl _) (Nat.le_succ _) (.int .u8 k) (.string x) (.int .u64 n) (.int .i64 a) (.int .i64 e) (.int .i64 sp))
    clear d0 d1 d2 d3 b0 b1 b2 b3 e0 e1 e2 e3
    obtain ⟨d0, d1, _, _⟩ := cell2b hB
    obtain ⟨c0, c1, c2, c3⟩ := cell4b hA
    refine bodyPost_ret (v := .tuple #[tokV k x n a, .int .i64 q, spotV e sp]) ?_ rfl ?_
    · simp [results, Tryz.results14, go_sem, c0, c1, c2, c3, d0, d1, tokV, spotV]
    · exact ⟨by rw [HRES.out], HB6.out⟩
  · have hcb : ((c : Int) == 120) = false := beq_no13 (by omega)
    have hcb2 : ((c : Int) == 39) = false := beq_no13 (by omega)
    clear hn2 h120 hn39
    go_enter Tryz.func14, Tryz.ntmps14
    go_wp2_with fail
    refine (HSM.out _).mono ?_
    rintro e7 w7 ⟨rfl, hw7⟩
    have HN := Lib.hid (show Rq w [] (.slice none 0 0) w7 from hw7 ▸ HN.out)
    clear hw7
    go_wp2_with fail
    refine (HCP.out _).mono ?_
    rintro e7 w7 ⟨rfl, hw7⟩
    have HN := Lib.hid (show Rq w [] (.slice none 0 0) w7 from hw7 ▸ HN.out)
    clear hw7
    go_wp2_with fail
    refine (HDG.out _).mono ?_
    rintro e7 w7 ⟨rfl, hw7⟩
    have HN := Lib.hid (show Rq w [] (.slice none 0 0) w7 from hw7 ▸ HN.out)
    clear hw7
    go_wp2_with fail
    refine (HC.out _).mono ?_
    rintro e9 w9 ⟨rfl, hb9⟩
    have HA9 := Lib.hid (Blk.below HN.out.2.1 hb9 (Blk.lt HN.out.2.1))
    have HB9 := Lib.hid (Blk.below HN.out.2.2.1 hb9 (Blk.lt HN.out.2.2.1))
    have HX9 := Lib.hid (below_low HN.out.2.2.2.1 HN.out.2.2.2.1.size hb9)
    clear hb9
    obtain ⟨d0, d1, d2, d3⟩ := cell2b HB9.out
    obtain ⟨b0, b1, b2, b3⟩ := cell4b HA9.out
    have e0 := (HA9.out).frozen 0
    have e1 := (HA9.out).frozen 1
    have e2 := (HA9.out).frozen 2
    have e3 := (HA9.out).frozen 3
    unfold tokV spotV
    go_wp2
    obtain ⟨hA, hB⟩ := two_set HA9.out HB9.out (by omega) (.int .u8 k) (.string x) (.int .u64 n) (.int .i64 a) (.int .i64 e) (.int .i64 sp)
    have HB6 := Lib.hid (two_below (g := w.heap.size) (h := w.heap.size + 1) HX9.out (Nat.le_refl _) (Nat.le_succ _) (.int .u8 k) (.string x) (.int .u64 n) (.int .i64 a) (.int .i64 e) (.int .i64 sp))
    clear d0 d1 d2 d3 b0 b1 b2 b3 e0 e1 e2 e3
    obtain ⟨d0, d1, _, _⟩ := cell2b hB
    obtain ⟨c0, c1, c2, c3⟩ := cell4b hA
    refine bodyPost_ret (v := .tuple #[tokV k x n a, .int .i64 q, spotV e sp]) ?_ rfl ?_
    · simp [results, Tryz.results14, go_sem, c0, c1, c2, c3, d0, d1, tokV, spotV]
    · exact ⟨by rw [HRES.out], HB6.out⟩
set_option maxRecDepth 100000 in
set_option maxHeartbeats 8000000 in
theorem rone_sign (S : ByteArray) (p : Nat) (w : World) (hp : p < S.size) (hS : S.size ≤ 140737488351232) (hn39 : ¬ atB S p = 39) (hn2 : ¬ (atB S p = 120 ∧ atB S (p + 1) = 39)) (hs : smaB (atB S p : Int) = false) (hcap : capB (atB S p : Int) = false) (hdig : digB (atB S p : Int) = false) : Calls Tryz.prog 14 #[.string S, .int .i64 p] w fun r w' => r = .returned (anR (signA S p)) ∧ Below w.heap.size w w' := by
  have hSI : (S.size : Int) ≤ 140737488351232 := by omega
  have hpI : (p : Int) < S.size := by omega
  have HN := Lib.hid (rq_new w)
  have hx0 := atB_at S p hp
  have HSA := Lib.hid (signA_ref S p hp)
  obtain ⟨b2, hb2⟩ : ∃ b, isIn signs2 (S.extract p (p + 2)) = b := ⟨_, rfl⟩
  obtain ⟨b1, hb1⟩ : ∃ b, isIn signs1 (S.extract p (p + 1)) = b := ⟨_, rfl⟩
  have HI2 := Lib.hid (fun W g hg => rin2 (S.extract p (p + 2)) W g hg)
  have HI1 := Lib.hid (fun W g hg => rin1 (S.extract p (p + 1)) W g hg)
  rw [hb2] at HI2
  rw [hb1] at HI1
  have hp1I : (p : Int) + 1 ≤ S.size := by omega
  have had : ∀ W, Calls Tryz.prog 28 #[.string S, .int .i64 ((p : Int) + 1)] W fun e w' => e = .returned (.int .u8 (atB S (p + 1))) ∧ W = w' := fun W => rAt_any S (p + 1) W
  obtain ⟨d, hd⟩ : ∃ d, atB S (p + 1) = d := ⟨_, rfl⟩
  obtain ⟨c, hc⟩ : ∃ c, atB S p = c := ⟨_, rfl⟩
  rw [hd] at had hn2
  rw [hc] at hx0 hn39 hn2
  have HAD := Lib.hid had
  have hsm := fun W => rsma_any (atB S p : Int) W
  have hcp := fun W => rcap_any (atB S p : Int) W
  have hdg := fun W => rdig_any (atB S p : Int) W
  rw [hs, hc] at hsm
  rw [hcap, hc] at hcp
  rw [hdig, hc] at hdg
  have HSM := Lib.hid hsm
  have HCP := Lib.hid hcp
  have HDG := Lib.hid hdg
  clear had hd hc hs hcap hsm hcp hdg hdig
  by_cases h120 : c = 120
  · subst h120
    have hdb : ((d : Int) == 39) = false := beq_no13 (fun e => hn2 ⟨rfl, by omega⟩)
    clear hn2 hn39
    go_enter Tryz.func14, Tryz.ntmps14
    go_wp2_with fail
    refine (HAD.out _).mono ?_
    rintro e8 w8 ⟨rfl, hw8⟩
    have HN := Lib.hid (show Rq w [] (.slice none 0 0) w8 from hw8 ▸ HN.out)
    clear hw8
    go_wp2_with fail
    refine (HSM.out _).mono ?_
    rintro e7 w7 ⟨rfl, hw7⟩
    have HN := Lib.hid (show Rq w [] (.slice none 0 0) w7 from hw7 ▸ HN.out)
    clear hw7
    go_wp2_with fail
    refine (HCP.out _).mono ?_
    rintro e7 w7 ⟨rfl, hw7⟩
    have HN := Lib.hid (show Rq w [] (.slice none 0 0) w7 from hw7 ▸ HN.out)
    clear hw7
    go_wp2_with fail
    refine (HDG.out _).mono ?_
    rintro e7 w7 ⟨rfl, hw7⟩
    have HN := Lib.hid (show Rq w [] (.slice none 0 0) w7 from hw7 ▸ HN.out)
    clear hw7

    by_cases h2s : p + 2 ≤ S.size
    · have h2I : (p : Int) + 2 ≤ S.size := by omega
      cases b2 with
      | true =>
        have HRES := Lib.hid (show anR (signA S p) = .tuple #[tokV 6 (S.extract p (p + 2)) 0 p, .int .i64 ((p : Int) + 2), spotV 0 0] by rw [HSA.out, if_pos ⟨h2s, hb2⟩]; rfl)
        clear hb1 hb2
        go_wp2_with fail
        refine (HI2.out _ _ (by first | rfl | simp)).mono ?_
        rintro e6 w6 ⟨rfl, hb6⟩
        have HN := Lib.hid (rq_step HN.out hb6)
        clear hb6
        have HA9 := Lib.hid HN.out.2.1
        have HB9 := Lib.hid HN.out.2.2.1
        have HX9 := Lib.hid HN.out.2.2.2.1

        obtain ⟨d0, d1, d2, d3⟩ := cell2b HB9.out
        obtain ⟨b0, b1, b2, b3⟩ := cell4b HA9.out
        have e0 := (HA9.out).frozen 0
        have e1 := (HA9.out).frozen 1
        have e2 := (HA9.out).frozen 2
        have e3 := (HA9.out).frozen 3

        go_wp2
        obtain ⟨hA, hB⟩ := two_set HA9.out HB9.out (by omega) (.int .u8 6) (.string (S.extract p (p + 2))) (.int .u64 0) (.int .i64 p) (.int .i64 0) (.int .i64 0)
        have HB6 := Lib.hid (two_below (g := w.heap.size) (h := w.heap.size + 1) HX9.out (Nat.le_refl _) (Nat.le_succ _) (.int .u8 6) (.string (S.extract p (p + 2))) (.int .u64 0) (.int .i64 p) (.int .i64 0) (.int .i64 0))
        clear d0 d1 d2 d3 b0 b1 b2 b3 e0 e1 e2 e3
        obtain ⟨d0, d1, _, _⟩ := cell2b hB
        obtain ⟨c0, c1, c2, c3⟩ := cell4b hA
        refine bodyPost_ret (v := .tuple #[tokV 6 (S.extract p (p + 2)) 0 p, .int .i64 ((p : Int) + 2), spotV 0 0]) ?_ rfl ?_
        · simp [results, Tryz.results14, go_sem, c0, c1, c2, c3, d0, d1, tokV, spotV]
        · exact ⟨by rw [HRES.out], HB6.out⟩
      | false =>
        have hb2 : ¬ (p + 2 ≤ S.size ∧ isIn signs2 (S.extract p (p + 2)) = true) := fun hh => by rw [hb2] at hh; exact absurd hh.2 (by decide)
        go_wp2_with fail
        refine (HI2.out _ _ (by first | rfl | simp)).mono ?_
        rintro e6 w6 ⟨rfl, hb6⟩
        have HN := Lib.hid (rq_step HN.out hb6)
        clear hb6
        cases b1 with
        | true =>
          have HRES := Lib.hid (show anR (signA S p) = .tuple #[tokV 6 (S.extract p (p + 1)) 0 p, .int .i64 ((p : Int) + 1), spotV 0 0] by rw [HSA.out, if_neg hb2, if_pos hb1]; rfl)
          clear hb1 hb2
          go_wp2_with fail
          refine (HI1.out _ _ (by first | rfl | simp)).mono ?_
          rintro e6 w6 ⟨rfl, hb6⟩
          have HN := Lib.hid (rq_step HN.out (hb6))
          clear hb6
          have HA9 := Lib.hid HN.out.2.1
          have HB9 := Lib.hid HN.out.2.2.1
          have HX9 := Lib.hid HN.out.2.2.2.1

          obtain ⟨d0, d1, d2, d3⟩ := cell2b HB9.out
          obtain ⟨b0, b1, b2, b3⟩ := cell4b HA9.out
          have e0 := (HA9.out).frozen 0
          have e1 := (HA9.out).frozen 1
          have e2 := (HA9.out).frozen 2
          have e3 := (HA9.out).frozen 3

          go_wp2
          obtain ⟨hA, hB⟩ := two_set HA9.out HB9.out (by omega) (.int .u8 6) (.string (S.extract p (p + 1))) (.int .u64 0) (.int .i64 p) (.int .i64 0) (.int .i64 0)
          have HB6 := Lib.hid (two_below (g := w.heap.size) (h := w.heap.size + 1) HX9.out (Nat.le_refl _) (Nat.le_succ _) (.int .u8 6) (.string (S.extract p (p + 1))) (.int .u64 0) (.int .i64 p) (.int .i64 0) (.int .i64 0))
          clear d0 d1 d2 d3 b0 b1 b2 b3 e0 e1 e2 e3
          obtain ⟨d0, d1, _, _⟩ := cell2b hB
          obtain ⟨c0, c1, c2, c3⟩ := cell4b hA
          refine bodyPost_ret (v := .tuple #[tokV 6 (S.extract p (p + 1)) 0 p, .int .i64 ((p : Int) + 1), spotV 0 0]) ?_ rfl ?_
          · simp [results, Tryz.results14, go_sem, c0, c1, c2, c3, d0, d1, tokV, spotV]
          · exact ⟨by rw [HRES.out], HB6.out⟩
        | false =>
          have HRES := Lib.hid (show anR (signA S p) = .tuple #[tokV 0 ⟨#[]⟩ 0 0, .int .i64 0, spotV 6 p] by rw [HSA.out, if_neg hb2, if_neg (by rw [hb1]; decide)]; rfl)
          clear hb1 hb2
          go_wp2_with fail
          refine (HI1.out _ _ (by first | rfl | simp)).mono ?_
          rintro e6 w6 ⟨rfl, hb6⟩
          have HN := Lib.hid (rq_step HN.out (hb6))
          clear hb6
          have HA9 := Lib.hid HN.out.2.1
          have HB9 := Lib.hid HN.out.2.2.1
          have HX9 := Lib.hid HN.out.2.2.2.1

          go_wp2_with fail
          refine (rbad_any 6 p _).mono ?_
          rintro e w9 ⟨rfl, hb9⟩
          have HA9 := Lib.hid (Blk.below HA9.out hb9 (Blk.lt HA9.out))
          have HB9 := Lib.hid (Blk.below HB9.out hb9 (Blk.lt HB9.out))
          have HX9 := Lib.hid (below_low HX9.out HX9.out.size hb9)
          clear hb9
          obtain ⟨d0, d1, d2, d3⟩ := cell2b HB9.out
          obtain ⟨b0, b1, b2, b3⟩ := cell4b HA9.out
          have e0 := (HA9.out).frozen 0
          have e1 := (HA9.out).frozen 1
          have e2 := (HA9.out).frozen 2
          have e3 := (HA9.out).frozen 3
          unfold tokV spotV
          go_wp2
          obtain ⟨hA, hB⟩ := two_set HA9.out HB9.out (by omega) (.int .u8 0) (.string ⟨#[]⟩) (.int .u64 0) (.int .i64 0) (.int .i64 6) (.int .i64 p)
          have HB6 := Lib.hid (two_below (g := w.heap.size) (h := w.heap.size + 1) HX9.out (Nat.le_refl _) (Nat.le_succ _) (.int .u8 0) (.string ⟨#[]⟩) (.int .u64 0) (.int .i64 0) (.int .i64 6) (.int .i64 p))
          clear d0 d1 d2 d3 b0 b1 b2 b3 e0 e1 e2 e3
          obtain ⟨d0, d1, _, _⟩ := cell2b hB
          obtain ⟨c0, c1, c2, c3⟩ := cell4b hA
          refine bodyPost_ret (v := .tuple #[tokV 0 ⟨#[]⟩ 0 0, .int .i64 0, spotV 6 p]) ?_ rfl ?_
          · simp [results, Tryz.results14, go_sem, c0, c1, c2, c3, d0, d1, tokV, spotV]
          · exact ⟨by rw [HRES.out], HB6.out⟩

    · have h2I : ¬ (p : Int) + 2 ≤ S.size := by omega
      have hb2 : ¬ (p + 2 ≤ S.size ∧ isIn signs2 (S.extract p (p + 2)) = true) := fun hh => h2s hh.1
      cases b1 with
      | true =>
        have HRES := Lib.hid (show anR (signA S p) = .tuple #[tokV 6 (S.extract p (p + 1)) 0 p, .int .i64 ((p : Int) + 1), spotV 0 0] by rw [HSA.out, if_neg hb2, if_pos hb1]; rfl)
        clear hb1 hb2
        go_wp2_with fail
        refine (HI1.out _ _ (by first | rfl | simp)).mono ?_
        rintro e6 w6 ⟨rfl, hb6⟩
        have HN := Lib.hid (rq_step HN.out (hb6))
        clear hb6
        have HA9 := Lib.hid HN.out.2.1
        have HB9 := Lib.hid HN.out.2.2.1
        have HX9 := Lib.hid HN.out.2.2.2.1

        obtain ⟨d0, d1, d2, d3⟩ := cell2b HB9.out
        obtain ⟨b0, b1, b2, b3⟩ := cell4b HA9.out
        have e0 := (HA9.out).frozen 0
        have e1 := (HA9.out).frozen 1
        have e2 := (HA9.out).frozen 2
        have e3 := (HA9.out).frozen 3

        go_wp2
        obtain ⟨hA, hB⟩ := two_set HA9.out HB9.out (by omega) (.int .u8 6) (.string (S.extract p (p + 1))) (.int .u64 0) (.int .i64 p) (.int .i64 0) (.int .i64 0)
        have HB6 := Lib.hid (two_below (g := w.heap.size) (h := w.heap.size + 1) HX9.out (Nat.le_refl _) (Nat.le_succ _) (.int .u8 6) (.string (S.extract p (p + 1))) (.int .u64 0) (.int .i64 p) (.int .i64 0) (.int .i64 0))
        clear d0 d1 d2 d3 b0 b1 b2 b3 e0 e1 e2 e3
        obtain ⟨d0, d1, _, _⟩ := cell2b hB
        obtain ⟨c0, c1, c2, c3⟩ := cell4b hA
        refine bodyPost_ret (v := .tuple #[tokV 6 (S.extract p (p + 1)) 0 p, .int .i64 ((p : Int) + 1), spotV 0 0]) ?_ rfl ?_
        · simp [results, Tryz.results14, go_sem, c0, c1, c2, c3, d0, d1, tokV, spotV]
        · exact ⟨by rw [HRES.out], HB6.out⟩
      | false =>
        have HRES := Lib.hid (show anR (signA S p) = .tuple #[tokV 0 ⟨#[]⟩ 0 0, .int .i64 0, spotV 6 p] by rw [HSA.out, if_neg hb2, if_neg (by rw [hb1]; decide)]; rfl)
        clear hb1 hb2
        go_wp2_with fail
        refine (HI1.out _ _ (by first | rfl | simp)).mono ?_
        rintro e6 w6 ⟨rfl, hb6⟩
        have HN := Lib.hid (rq_step HN.out (hb6))
        clear hb6
        have HA9 := Lib.hid HN.out.2.1
        have HB9 := Lib.hid HN.out.2.2.1
        have HX9 := Lib.hid HN.out.2.2.2.1

        go_wp2_with fail
        refine (rbad_any 6 p _).mono ?_
        rintro e w9 ⟨rfl, hb9⟩
        have HA9 := Lib.hid (Blk.below HA9.out hb9 (Blk.lt HA9.out))
        have HB9 := Lib.hid (Blk.below HB9.out hb9 (Blk.lt HB9.out))
        have HX9 := Lib.hid (below_low HX9.out HX9.out.size hb9)
        clear hb9
        obtain ⟨d0, d1, d2, d3⟩ := cell2b HB9.out
        obtain ⟨b0, b1, b2, b3⟩ := cell4b HA9.out
        have e0 := (HA9.out).frozen 0
        have e1 := (HA9.out).frozen 1
        have e2 := (HA9.out).frozen 2
        have e3 := (HA9.out).frozen 3
        unfold tokV spotV
        go_wp2
        obtain ⟨hA, hB⟩ := two_set HA9.out HB9.out (by omega) (.int .u8 0) (.string ⟨#[]⟩) (.int .u64 0) (.int .i64 0) (.int .i64 6) (.int .i64 p)
        have HB6 := Lib.hid (two_below (g := w.heap.size) (h := w.heap.size + 1) HX9.out (Nat.le_refl _) (Nat.le_succ _) (.int .u8 0) (.string ⟨#[]⟩) (.int .u64 0) (.int .i64 0) (.int .i64 6) (.int .i64 p))
        clear d0 d1 d2 d3 b0 b1 b2 b3 e0 e1 e2 e3
        obtain ⟨d0, d1, _, _⟩ := cell2b hB
        obtain ⟨c0, c1, c2, c3⟩ := cell4b hA
        refine bodyPost_ret (v := .tuple #[tokV 0 ⟨#[]⟩ 0 0, .int .i64 0, spotV 6 p]) ?_ rfl ?_
        · simp [results, Tryz.results14, go_sem, c0, c1, c2, c3, d0, d1, tokV, spotV]
        · exact ⟨by rw [HRES.out], HB6.out⟩
  · have hcb : ((c : Int) == 120) = false := beq_no13 (by omega)
    have hcb2 : ((c : Int) == 39) = false := beq_no13 (by omega)
    clear hn2 h120 hn39
    go_enter Tryz.func14, Tryz.ntmps14
    go_wp2_with fail
    refine (HSM.out _).mono ?_
    rintro e7 w7 ⟨rfl, hw7⟩
    have HN := Lib.hid (show Rq w [] (.slice none 0 0) w7 from hw7 ▸ HN.out)
    clear hw7
    go_wp2_with fail
    refine (HCP.out _).mono ?_
    rintro e7 w7 ⟨rfl, hw7⟩
    have HN := Lib.hid (show Rq w [] (.slice none 0 0) w7 from hw7 ▸ HN.out)
    clear hw7
    go_wp2_with fail
    refine (HDG.out _).mono ?_
    rintro e7 w7 ⟨rfl, hw7⟩
    have HN := Lib.hid (show Rq w [] (.slice none 0 0) w7 from hw7 ▸ HN.out)
    clear hw7

    by_cases h2s : p + 2 ≤ S.size
    · have h2I : (p : Int) + 2 ≤ S.size := by omega
      cases b2 with
      | true =>
        have HRES := Lib.hid (show anR (signA S p) = .tuple #[tokV 6 (S.extract p (p + 2)) 0 p, .int .i64 ((p : Int) + 2), spotV 0 0] by rw [HSA.out, if_pos ⟨h2s, hb2⟩]; rfl)
        clear hb1 hb2
        go_wp2_with fail
        refine (HI2.out _ _ (by first | rfl | simp)).mono ?_
        rintro e6 w6 ⟨rfl, hb6⟩
        have HN := Lib.hid (rq_step HN.out hb6)
        clear hb6
        have HA9 := Lib.hid HN.out.2.1
        have HB9 := Lib.hid HN.out.2.2.1
        have HX9 := Lib.hid HN.out.2.2.2.1

        obtain ⟨d0, d1, d2, d3⟩ := cell2b HB9.out
        obtain ⟨b0, b1, b2, b3⟩ := cell4b HA9.out
        have e0 := (HA9.out).frozen 0
        have e1 := (HA9.out).frozen 1
        have e2 := (HA9.out).frozen 2
        have e3 := (HA9.out).frozen 3

        go_wp2
        obtain ⟨hA, hB⟩ := two_set HA9.out HB9.out (by omega) (.int .u8 6) (.string (S.extract p (p + 2))) (.int .u64 0) (.int .i64 p) (.int .i64 0) (.int .i64 0)
        have HB6 := Lib.hid (two_below (g := w.heap.size) (h := w.heap.size + 1) HX9.out (Nat.le_refl _) (Nat.le_succ _) (.int .u8 6) (.string (S.extract p (p + 2))) (.int .u64 0) (.int .i64 p) (.int .i64 0) (.int .i64 0))
        clear d0 d1 d2 d3 b0 b1 b2 b3 e0 e1 e2 e3
        obtain ⟨d0, d1, _, _⟩ := cell2b hB
        obtain ⟨c0, c1, c2, c3⟩ := cell4b hA
        refine bodyPost_ret (v := .tuple #[tokV 6 (S.extract p (p + 2)) 0 p, .int .i64 ((p : Int) + 2), spotV 0 0]) ?_ rfl ?_
        · simp [results, Tryz.results14, go_sem, c0, c1, c2, c3, d0, d1, tokV, spotV]
        · exact ⟨by rw [HRES.out], HB6.out⟩
      | false =>
        have hb2 : ¬ (p + 2 ≤ S.size ∧ isIn signs2 (S.extract p (p + 2)) = true) := fun hh => by rw [hb2] at hh; exact absurd hh.2 (by decide)
        go_wp2_with fail
        refine (HI2.out _ _ (by first | rfl | simp)).mono ?_
        rintro e6 w6 ⟨rfl, hb6⟩
        have HN := Lib.hid (rq_step HN.out hb6)
        clear hb6
        cases b1 with
        | true =>
          have HRES := Lib.hid (show anR (signA S p) = .tuple #[tokV 6 (S.extract p (p + 1)) 0 p, .int .i64 ((p : Int) + 1), spotV 0 0] by rw [HSA.out, if_neg hb2, if_pos hb1]; rfl)
          clear hb1 hb2
          go_wp2_with fail
          refine (HI1.out _ _ (by first | rfl | simp)).mono ?_
          rintro e6 w6 ⟨rfl, hb6⟩
          have HN := Lib.hid (rq_step HN.out (hb6))
          clear hb6
          have HA9 := Lib.hid HN.out.2.1
          have HB9 := Lib.hid HN.out.2.2.1
          have HX9 := Lib.hid HN.out.2.2.2.1

          obtain ⟨d0, d1, d2, d3⟩ := cell2b HB9.out
          obtain ⟨b0, b1, b2, b3⟩ := cell4b HA9.out
          have e0 := (HA9.out).frozen 0
          have e1 := (HA9.out).frozen 1
          have e2 := (HA9.out).frozen 2
          have e3 := (HA9.out).frozen 3

          go_wp2
          obtain ⟨hA, hB⟩ := two_set HA9.out HB9.out (by omega) (.int .u8 6) (.string (S.extract p (p + 1))) (.int .u64 0) (.int .i64 p) (.int .i64 0) (.int .i64 0)
          have HB6 := Lib.hid (two_below (g := w.heap.size) (h := w.heap.size + 1) HX9.out (Nat.le_refl _) (Nat.le_succ _) (.int .u8 6) (.string (S.extract p (p + 1))) (.int .u64 0) (.int .i64 p) (.int .i64 0) (.int .i64 0))
          clear d0 d1 d2 d3 b0 b1 b2 b3 e0 e1 e2 e3
          obtain ⟨d0, d1, _, _⟩ := cell2b hB
          obtain ⟨c0, c1, c2, c3⟩ := cell4b hA
          refine bodyPost_ret (v := .tuple #[tokV 6 (S.extract p (p + 1)) 0 p, .int .i64 ((p : Int) + 1), spotV 0 0]) ?_ rfl ?_
          · simp [results, Tryz.results14, go_sem, c0, c1, c2, c3, d0, d1, tokV, spotV]
          · exact ⟨by rw [HRES.out], HB6.out⟩
        | false =>
          have HRES := Lib.hid (show anR (signA S p) = .tuple #[tokV 0 ⟨#[]⟩ 0 0, .int .i64 0, spotV 6 p] by rw [HSA.out, if_neg hb2, if_neg (by rw [hb1]; decide)]; rfl)
          clear hb1 hb2
          go_wp2_with fail
          refine (HI1.out _ _ (by first | rfl | simp)).mono ?_
          rintro e6 w6 ⟨rfl, hb6⟩
          have HN := Lib.hid (rq_step HN.out (hb6))
          clear hb6
          have HA9 := Lib.hid HN.out.2.1
          have HB9 := Lib.hid HN.out.2.2.1
          have HX9 := Lib.hid HN.out.2.2.2.1

          go_wp2_with fail
          refine (rbad_any 6 p _).mono ?_
          rintro e w9 ⟨rfl, hb9⟩
          have HA9 := Lib.hid (Blk.below HA9.out hb9 (Blk.lt HA9.out))
          have HB9 := Lib.hid (Blk.below HB9.out hb9 (Blk.lt HB9.out))
          have HX9 := Lib.hid (below_low HX9.out HX9.out.size hb9)
          clear hb9
          obtain ⟨d0, d1, d2, d3⟩ := cell2b HB9.out
          obtain ⟨b0, b1, b2, b3⟩ := cell4b HA9.out
          have e0 := (HA9.out).frozen 0
          have e1 := (HA9.out).frozen 1
          have e2 := (HA9.out).frozen 2
          have e3 := (HA9.out).frozen 3
          unfold tokV spotV
          go_wp2
          obtain ⟨hA, hB⟩ := two_set HA9.out HB9.out (by omega) (.int .u8 0) (.string ⟨#[]⟩) (.int .u64 0) (.int .i64 0) (.int .i64 6) (.int .i64 p)
          have HB6 := Lib.hid (two_below (g := w.heap.size) (h := w.heap.size + 1) HX9.out (Nat.le_refl _) (Nat.le_succ _) (.int .u8 0) (.string ⟨#[]⟩) (.int .u64 0) (.int .i64 0) (.int .i64 6) (.int .i64 p))
          clear d0 d1 d2 d3 b0 b1 b2 b3 e0 e1 e2 e3
          obtain ⟨d0, d1, _, _⟩ := cell2b hB
          obtain ⟨c0, c1, c2, c3⟩ := cell4b hA
          refine bodyPost_ret (v := .tuple #[tokV 0 ⟨#[]⟩ 0 0, .int .i64 0, spotV 6 p]) ?_ rfl ?_
          · simp [results, Tryz.results14, go_sem, c0, c1, c2, c3, d0, d1, tokV, spotV]
          · exact ⟨by rw [HRES.out], HB6.out⟩

    · have h2I : ¬ (p : Int) + 2 ≤ S.size := by omega
      have hb2 : ¬ (p + 2 ≤ S.size ∧ isIn signs2 (S.extract p (p + 2)) = true) := fun hh => h2s hh.1
      cases b1 with
      | true =>
        have HRES := Lib.hid (show anR (signA S p) = .tuple #[tokV 6 (S.extract p (p + 1)) 0 p, .int .i64 ((p : Int) + 1), spotV 0 0] by rw [HSA.out, if_neg hb2, if_pos hb1]; rfl)
        clear hb1 hb2
        go_wp2_with fail
        refine (HI1.out _ _ (by first | rfl | simp)).mono ?_
        rintro e6 w6 ⟨rfl, hb6⟩
        have HN := Lib.hid (rq_step HN.out (hb6))
        clear hb6
        have HA9 := Lib.hid HN.out.2.1
        have HB9 := Lib.hid HN.out.2.2.1
        have HX9 := Lib.hid HN.out.2.2.2.1

        obtain ⟨d0, d1, d2, d3⟩ := cell2b HB9.out
        obtain ⟨b0, b1, b2, b3⟩ := cell4b HA9.out
        have e0 := (HA9.out).frozen 0
        have e1 := (HA9.out).frozen 1
        have e2 := (HA9.out).frozen 2
        have e3 := (HA9.out).frozen 3

        go_wp2
        obtain ⟨hA, hB⟩ := two_set HA9.out HB9.out (by omega) (.int .u8 6) (.string (S.extract p (p + 1))) (.int .u64 0) (.int .i64 p) (.int .i64 0) (.int .i64 0)
        have HB6 := Lib.hid (two_below (g := w.heap.size) (h := w.heap.size + 1) HX9.out (Nat.le_refl _) (Nat.le_succ _) (.int .u8 6) (.string (S.extract p (p + 1))) (.int .u64 0) (.int .i64 p) (.int .i64 0) (.int .i64 0))
        clear d0 d1 d2 d3 b0 b1 b2 b3 e0 e1 e2 e3
        obtain ⟨d0, d1, _, _⟩ := cell2b hB
        obtain ⟨c0, c1, c2, c3⟩ := cell4b hA
        refine bodyPost_ret (v := .tuple #[tokV 6 (S.extract p (p + 1)) 0 p, .int .i64 ((p : Int) + 1), spotV 0 0]) ?_ rfl ?_
        · simp [results, Tryz.results14, go_sem, c0, c1, c2, c3, d0, d1, tokV, spotV]
        · exact ⟨by rw [HRES.out], HB6.out⟩
      | false =>
        have HRES := Lib.hid (show anR (signA S p) = .tuple #[tokV 0 ⟨#[]⟩ 0 0, .int .i64 0, spotV 6 p] by rw [HSA.out, if_neg hb2, if_neg (by rw [hb1]; decide)]; rfl)
        clear hb1 hb2
        go_wp2_with fail
        refine (HI1.out _ _ (by first | rfl | simp)).mono ?_
        rintro e6 w6 ⟨rfl, hb6⟩
        have HN := Lib.hid (rq_step HN.out (hb6))
        clear hb6
        have HA9 := Lib.hid HN.out.2.1
        have HB9 := Lib.hid HN.out.2.2.1
        have HX9 := Lib.hid HN.out.2.2.2.1

        go_wp2_with fail
        refine (rbad_any 6 p _).mono ?_
        rintro e w9 ⟨rfl, hb9⟩
        have HA9 := Lib.hid (Blk.below HA9.out hb9 (Blk.lt HA9.out))
        have HB9 := Lib.hid (Blk.below HB9.out hb9 (Blk.lt HB9.out))
        have HX9 := Lib.hid (below_low HX9.out HX9.out.size hb9)
        clear hb9
        obtain ⟨d0, d1, d2, d3⟩ := cell2b HB9.out
        obtain ⟨b0, b1, b2, b3⟩ := cell4b HA9.out
        have e0 := (HA9.out).frozen 0
        have e1 := (HA9.out).frozen 1
        have e2 := (HA9.out).frozen 2
        have e3 := (HA9.out).frozen 3
        unfold tokV spotV
        go_wp2
        obtain ⟨hA, hB⟩ := two_set HA9.out HB9.out (by omega) (.int .u8 0) (.string ⟨#[]⟩) (.int .u64 0) (.int .i64 0) (.int .i64 6) (.int .i64 p)
        have HB6 := Lib.hid (two_below (g := w.heap.size) (h := w.heap.size + 1) HX9.out (Nat.le_refl _) (Nat.le_succ _) (.int .u8 0) (.string ⟨#[]⟩) (.int .u64 0) (.int .i64 0) (.int .i64 6) (.int .i64 p))
        clear d0 d1 d2 d3 b0 b1 b2 b3 e0 e1 e2 e3
        obtain ⟨d0, d1, _, _⟩ := cell2b hB
        obtain ⟨c0, c1, c2, c3⟩ := cell4b hA
        refine bodyPost_ret (v := .tuple #[tokV 0 ⟨#[]⟩ 0 0, .int .i64 0, spotV 6 p]) ?_ rfl ?_
        · simp [results, Tryz.results14, go_sem, c0, c1, c2, c3, d0, d1, tokV, spotV]
        · exact ⟨by rw [HRES.out], HB6.out⟩
theorem rone_any (S : ByteArray) (p : Nat) (w : World) (hp : p < S.size) (hS : S.size ≤ 140737488351232) : Calls Tryz.prog 14 #[.string S, .int .i64 p] w fun r w' => r = .returned (anR (oneA S p)) ∧ Below w.heap.size w w' := by
  unfold oneA
  by_cases h1 : atB S p = 39
  · rw [if_pos h1]; exact rone_text S p w hp hS h1
  rw [if_neg h1]
  by_cases h2 : atB S p = 120 ∧ atB S (p + 1) = 39
  · rw [if_pos h2]; exact rone_blob S p w hp hS h2.1 h2.2
  rw [if_neg h2]
  cases h3 : capB (atB S p : Int) with
  | true =>
    have h4 : smaB (atB S p : Int) = false := by
      unfold capB at h3
      unfold smaB
      simp at h3 ⊢
      omega
    rw [if_pos rfl]; exact rone_word S p w hp hS h1 h2 h4 h3
  | false =>
    rw [if_neg (by decide)]
    cases h4 : smaB (atB S p : Int) with
    | true => rw [if_pos rfl]; exact rone_name S p w hp hS h1 h2 h4 h3
    | false =>
      rw [if_neg (by decide)]
      cases h5 : digB (atB S p : Int) with
      | true => rw [if_pos rfl]; exact rone_num S p w hp hS h1 h2 h4 h3 h5
      | false => rw [if_neg (by decide)]; exact rone_sign S p w hp hS h1 h2 h4 h3 h5
end Go.Proofs.YtibnmkjabpoppaaGreatDoor
