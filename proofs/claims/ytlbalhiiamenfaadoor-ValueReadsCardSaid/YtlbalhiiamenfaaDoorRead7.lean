/- counterfoilref07.Read, whole: a blob, a text. Condition: the text has no more than a hundred thousand bytes. -/
import Derived.Test.YtlbalhiiamenfaaDoorRead6
namespace Go.Proofs.YtlbalhiiamenfaaDoor
open Go.RowKit
set_option linter.unusedVariables false
set_option linter.unusedSimpArgs false
theorem rl_new0 (w : World) : Rl w ⟨#[]⟩ 0 none 0 0 [] (w.alloc (.cells #[.int .u8 0, .int .i64 0, .string ⟨#[]⟩] 24)) :=
  ⟨World.ownsRow_nil _ _ _ _, Blk.new w _ _, one_alloc, by simp, rfl⟩
theorem hexI_lt {c : Nat} (h : hexd c = none) : hexI c = -1 := hexI_none h
theorem toldZ_none (k : Int) : toldZ k none = (nulV, 6) := rfl
theorem toldZ_big {k : Int} {t : List Nat} (h : 1000 < (bstr t).size) : toldZ k (some t) = (nulV, 3) := by rw [bstr_size] at h; simp only [toldZ]; rw [if_pos h]
theorem toldZ_ok {k : Int} {t : List Nat} (h : ¬ 1000 < (bstr t).size) : toldZ k (some t) = ((k, 0, bstr t), 0) := by rw [bstr_size] at h; simp only [toldZ]; rw [if_neg h]
theorem unh_end (acc : List Nat) : (unh [39]).map (acc ++ ·) = some acc := by simp [unh]
theorem unq_end (acc : List Nat) : (unq [39]).map (acc ++ ·) = some acc := by simp [unq]
set_option maxRecDepth 100000 in
set_option maxHeartbeats 16000000 in
theorem rread_x (s : ByteArray) (w : World) (hn : bts s ≠ nulL) (hg : Gx (bts s)) (hl : s.size ≤ 100000) : Calls Tryd.prog 26 #[.string s] w (RdP s w) := by
  obtain ⟨i0, hi0, hz0, hz1, hz2⟩ := info_parts u8_info
  have HZ := Lib.hid (readZ_x hg)
  have hne := nul_ne hn
  have HL := Lib.hid (bts_length s)
  obtain ⟨g1, g2, g3, g4, g5⟩ := hg
  rw [bts_length] at g1 g4 g5
  have HLAST := Lib.hid (show (bts s).drop (s.size - 1) = [39] by have h := drop_last (L := bts s) (by rw [HL.out]; omega) (by rw [HL.out]; exact g4); rw [HL.out] at h; exact h)
  have aI : (3 : Int) ≤ s.size := by omega
  have b0 : (0 : Int) < s.size := by omega
  have b1 : (1 : Int) < s.size := by omega
  have hy0 := byte_at s 0 (by omega)
  rw [g2] at hy0
  have hy1 := byte_at s 1 (by omega)
  rw [g3] at hy1
  have hxl := idx_run s (s.size - 1) (s.size - 1) 39 (by omega) (by omega) g4
  have q3 : (s.size : Int).tmod 2 = 1 := by rw [Int.tmod_eq_emod_of_nonneg (by omega)]; omega
  have HRD := Lib.hid rdigit
  have HTO := Lib.hid rtold
  have HG5 := Lib.hid g5
  have HR := Lib.hid (rl_new0 w)
  clear hn
  go_enter Tryd.func26, Tryd.ntmps26
  go_wp2
  clear hy0 hy1 hxl q3 hne
  go_loopw [4, 5] (fun v i wr => ∃ (j n c : Nat) (A : Option Addr) (acc : List Nat), 2 ≤ j ∧ j + 1 ≤ s.size ∧ j % 2 = 0 ∧ i = .int .i64 j ∧ v = .slice A n c ∧ acc.length ≤ j ∧ Rl w ⟨#[]⟩ 0 A n c acc wr ∧ unh ((bts s).drop 2) = (unh ((bts s).drop j)).map (acc ++ ·)) (fun _ i _ => s.size - (intOf i).toNat)
  case atStart => exact ⟨2, 0, 0, none, [], by omega, by omega, rfl, rfl, rfl, by simp, HR.out, by cases unh ((bts s).drop 2) <;> simp⟩
  case round =>
    clear HR
    obtain ⟨j, n, c, A, acc, hj2, hj, hje, rfl, rfl, hal, hr, heq⟩ := hrel
    have hn2 : n ≤ 100000 := by have := hr.2.2.2.2; omega
    have HEQ := Lib.hid heq
    have HJE := Lib.hid hje
    have HAL := Lib.hid hal
    obtain ⟨x0, x1, x2, y0, y1, y2⟩ := cell3 hr.2.1
    by_cases hjn : j + 1 < s.size
    · have jI : (j : Int) + 1 < s.size := by omega
      have jI0 : (j : Int) < s.size := by omega
      have hd : (bts s).drop j = (bts s).getD j 0 :: (bts s).getD (j + 1) 0 :: (bts s).drop (j + 2) := by
        rw [drop_at (by rw [HL.out]; omega), drop_at (by rw [HL.out]; omega)]
      rw [hd] at heq
      have hy := byte_at s j (by omega)
      have hc256 := bts_getD_lt s j
      have hd256 := bts_getD_lt s (j + 1)
      have hx := fun b (e : (bts s).getD (j + 1) 0 = b) => idx_run s ((j : Int) + 1) (j + 1) b (by omega) (by omega) e
      generalize hb2 : (bts s).getD (j + 1) 0 = d at *
      have hx := hx d rfl
      generalize (bts s).getD j 0 = c0 at *
      clear hb2 hd
      cases hc : hexd c0 with
      | none =>
        have HB := Lib.hid (show readZ (bts s) = (nulV, 6) by rw [HZ.out, heq, unh_bad (.inr (.inl hc))]; rfl)
        have e0 := hexI_none hc
        have HR := Lib.hid hr
        clear hc heq hr
        go_wp2_with fail
        refine (HRD.out c0 _ hc256).mono ?_
        rintro e w1 ⟨rfl, rfl⟩
        go_wp2_with fail
        refine (HRD.out d _ hd256).mono ?_
        rintro e w1 ⟨rfl, rfl⟩
        go_wp2
        obtain ⟨e0, e1, e2, _, _, _⟩ := cell3 (blk3_set HR.out.2.1 (.int .u8 0) (.int .i64 0) (.string ⟨#[]⟩))
        exact bodyPost_ret (v := .tuple #[.agg #[.int .u8 0, .int .i64 0, .string ⟨#[]⟩], .int .i64 6]) (by simp [results, Tryd.results26, go_sem, e0, e1, e2]) rfl (rdP_of (x := (0, 0, ⟨#[]⟩)) HB.out (by first | exact HR.out.2.2.1 | exact below3_set HR.out.2.2.1 _ _ _))
      | some a =>
        cases hdd : hexd d with
        | none =>
          have HB := Lib.hid (show readZ (bts s) = (nulV, 6) by rw [HZ.out, heq, unh_bad (.inr (.inr hdd))]; rfl)
          have e0 := hexI_none hdd
          have e1 := hexI_some hc
          have HR := Lib.hid hr
          clear hc hdd heq hr
          go_wp2_with fail
          refine (HRD.out c0 _ hc256).mono ?_
          rintro e w1 ⟨rfl, rfl⟩
          go_wp2_with fail
          refine (HRD.out d _ hd256).mono ?_
          rintro e w1 ⟨rfl, rfl⟩
          go_wp2
          obtain ⟨e0, e1, e2, _, _, _⟩ := cell3 (blk3_set HR.out.2.1 (.int .u8 0) (.int .i64 0) (.string ⟨#[]⟩))
          exact bodyPost_ret (v := .tuple #[.agg #[.int .u8 0, .int .i64 0, .string ⟨#[]⟩], .int .i64 6]) (by simp [results, Tryd.results26, go_sem, e0, e1, e2]) rfl (rdP_of (x := (0, 0, ⟨#[]⟩)) HB.out (by first | exact HR.out.2.2.1 | exact below3_set HR.out.2.2.1 _ _ _))
        | some b =>
          have ha := (hexd_some hc).1
          have hb := (hexd_some hdd).1
          have hne39 : c0 ≠ 39 := by intro e; rw [e, hexd39] at hc; cases hc
          have HQ := Lib.hid (show unh ((bts s).drop 2) = (unh ((bts s).drop (j + 2))).map ((acc ++ [16 * a + b]) ++ ·) by rw [heq, unh_pair hne39 hc hdd, omap_app])
          have e0 := hexI_some hc
          have e1 := hexI_some hdd
          generalize hk : 16 * a + b = k at *
          have hk256 : k < 256 := by omega
          have q4 : IntKind.u8.wrap (16 * (a : Int) + b) = (k : Int) := by simp [IntKind.wrap, IntKind.bits, IntKind.signed]; omega
          have HN := Lib.hid (rl_alloc hr (.cells #[.int .u8 (k : Nat)] 5))
          clear hc hdd heq hr hk hne39 x0 x1 x2 y0 y1 y2
          go_wp2_with fail
          refine (HRD.out c0 _ hc256).mono ?_
          rintro e w1 ⟨rfl, rfl⟩
          go_wp2_with fail
          refine (HRD.out d _ hd256).mono ?_
          rintro e w1 ⟨rfl, rfl⟩
          go_wp2_with (at_builtin; refine wpList_append_any _ rfl (.tmp 65) (.tmp 71) 51 rfl (w.heap.size + 1) 5 i0 _ 1 1 Tryd.underlying51 hi0 hz0 hz1 hz2 rfl (by omega) _ n (vals8 acc) rfl HN.out.1 (wr.heap.size + 1) (some ⟨wr.heap.size, 0, none⟩) 1 1 [Value.int .u8 k] rfl (reads1 wr _ _ _ rfl) (by intro u hu; simp at hu; rw [hu]; rfl) (by simp only [maxLen]; omega) (by omega) HN.out.2.2.2.1 ?_; intro v2 w6 hown2 hg2 hat2; obtain ⟨A2, c2, rfl, hR2⟩ := rl_grown (M := acc ++ [k]) HN.out (by rw [← vals8_snoc]; exact hown2) (by rw [List.length_append, ← HN.out.2.2.2.2]; rfl) hg2; (have HR2 := Lib.hid hR2); clear hown2 hg2 hat2 hR2)
          go_wp2
          go_roundw
          case rel => exact ⟨j + 2, _, c2, A2, acc ++ [k], by omega, by have := HG5.out; have := HJE.out; omega, by have := HJE.out; omega, by go_num, rfl, by have := HAL.out; simp; omega, HR2.out, HQ.out⟩
          case measure => simp [intOf]; omega
    · obtain rfl : j = s.size - 1 := by omega
      have jI : (s.size : Int) ≤ ((s.size - 1 : Nat) : Int) + 1 := by omega
      have HU := Lib.hid (show readZ (bts s) = toldZ 3 (some acc) by rw [HZ.out, heq, HLAST.out, unh_end])
      have hcv := rl_conv hr
      have HRR := Lib.hid hr
      generalize s.size - 1 = j at *
      have jB : (j : Int) ≤ 100000 := by omega
      clear heq hr hje hj hal
      go_wp2_with fail
      refine (HTO.out 3 (bstr acc) _).mono ?_
      rintro e w1 ⟨he, hb1⟩
      have hv1 := blk_step HRR.out.2.1 hb1
      obtain ⟨x0, x1, x2, y0, y1, y2⟩ := cell3 hv1
      have HV1 := Lib.hid hv1
      have HB1 := Lib.hid (bj HRR.out.2.2.1 hb1)
      by_cases hX : 1000 < (bstr acc).size
      · have HU2 := Lib.hid (HU.out.trans (toldZ_big hX))
        rw [if_pos hX] at he
        subst he
        clear hX hb1 hv1 hcv
        go_wp2
        obtain ⟨e0, e1, e2, _, _, _⟩ := cell3 (blk3_set HV1.out (.int .u8 0) (.int .i64 0) (.string ⟨#[]⟩))
        exact bodyPost_ret (v := .tuple #[.agg #[.int .u8 0, .int .i64 0, .string ⟨#[]⟩], .int .i64 3]) (by simp [results, Tryd.results26, go_sem, e0, e1, e2]) rfl (rdP_of (x := (0, 0, ⟨#[]⟩)) HU2.out (by first | exact HB1.out | exact below3_set HB1.out _ _ _))
      · have HU2 := Lib.hid (HU.out.trans (toldZ_ok hX))
        rw [if_neg hX] at he
        subst he
        generalize bstr acc = X at *
        clear hX hb1 hv1 hcv
        go_wp2
        obtain ⟨e0, e1, e2, _, _, _⟩ := cell3 (blk3_set HV1.out (.int .u8 3) (.int .i64 0) (.string X))
        exact bodyPost_ret (v := .tuple #[.agg #[.int .u8 3, .int .i64 0, .string X], .int .i64 0]) (by simp [results, Tryd.results26, go_sem, e0, e1, e2]) rfl (rdP_of (x := (3, 0, X)) HU2.out (by first | exact HB1.out | exact below3_set HB1.out _ _ _))
set_option maxRecDepth 100000 in
set_option maxHeartbeats 16000000 in
theorem rread_q (s : ByteArray) (w : World) (hn : bts s ≠ nulL) (hg : Gq (bts s)) (hl : s.size ≤ 100000) : Calls Tryd.prog 26 #[.string s] w (RdP s w) := by
  obtain ⟨i0, hi0, hz0, hz1, hz2⟩ := info_parts u8_info
  have HZ := Lib.hid (readZ_q hg)
  have hne := nul_ne hn
  have HL := Lib.hid (bts_length s)
  obtain ⟨g1, g2, g4⟩ := hg
  rw [bts_length] at g1 g4
  have HLAST := Lib.hid (show (bts s).drop (s.size - 1) = [39] by have h := drop_last (L := bts s) (by rw [HL.out]; omega) (by rw [HL.out]; exact g4); rw [HL.out] at h; exact h)
  have aI : (2 : Int) ≤ s.size := by omega
  have b0 : (0 : Int) < s.size := by omega
  have hy0 := byte_at s 0 (by omega)
  rw [g2] at hy0
  have hxl := idx_run s (s.size - 1) (s.size - 1) 39 (by omega) (by omega) g4
  have HTO := Lib.hid rtold
  have HR := Lib.hid (rl_new0 w)
  clear hn
  go_enter Tryd.func26, Tryd.ntmps26
  go_upto_region 3 with fail
  go_cut [41] (fun v wx => v = .bool false ∧ wx = w.alloc (.cells #[.int .u8 0, .int .i64 0, .string ⟨#[]⟩] 24))
  case first =>
    by_cases a3 : s.size < 3
    · have a3I : (s.size : Int) < 3 := by omega
      go_wp2_with fail
      go_meet
      exact ⟨by first | rfl | exact congrArg Value.bool (by simp [*]), rfl⟩
    · have a3I : (3 : Int) ≤ s.size := by omega
      go_wp2_with fail
      go_meet
      exact ⟨by first | rfl | exact congrArg Value.bool (by simp [*]), rfl⟩
  case rest =>
    obtain ⟨rfl, rfl⟩ := hcut
    go_wp2
    clear hy0 hxl hne
    go_loopw [8, 9] (fun v i wr => ∃ (j n c : Nat) (A : Option Addr) (acc : List Nat), 1 ≤ j ∧ j + 1 ≤ s.size ∧ i = .int .i64 j ∧ v = .slice A n c ∧ acc.length ≤ j ∧ Rl w ⟨#[]⟩ 0 A n c acc wr ∧ unq ((bts s).drop 1) = (unq ((bts s).drop j)).map (acc ++ ·)) (fun _ i _ => s.size - (intOf i).toNat)
    case atStart => exact ⟨1, 0, 0, none, [], by omega, by omega, rfl, rfl, by simp, HR.out, by cases unq ((bts s).drop 1) <;> simp⟩
    case round =>
      clear HR
      obtain ⟨j, n, c, A, acc, hj2, hj, rfl, rfl, hal, hr, heq⟩ := hrel
      have hn2 : n ≤ 100000 := by have := hr.2.2.2.2; omega
      have HEQ := Lib.hid heq
      have HAL := Lib.hid hal
      have sI : IntKind.i64.wrap ((s.size : Int) - 1) = (s.size : Int) - 1 := by rw [IntKind.wrap_i64]; omega
      by_cases hjn : j + 1 < s.size
      · have jI : (j : Int) < (s.size : Int) - 1 := by omega
        have jI0 : (j : Int) < s.size := by omega
        have jI1 : (j : Int) + 1 < s.size := by omega
        have hd : (bts s).drop j = (bts s).getD j 0 :: (bts s).drop (j + 1) := drop_at (by rw [HL.out]; omega)
        have hd2 : (bts s).drop (j + 1) = (bts s).getD (j + 1) 0 :: (bts s).drop (j + 2) := drop_at (by rw [HL.out]; omega)
        have hy := byte_at s j (by omega)
        have hc256 := bts_getD_lt s j
        have hx := fun b (e : (bts s).getD (j + 1) 0 = b) => idx_run s ((j : Int) + 1) (j + 1) b (by omega) (by omega) e
        generalize hb2 : (bts s).getD (j + 1) 0 = d at *
        have hx := hx d rfl
        generalize hb1 : (bts s).getD j 0 = c0 at *
        by_cases hc : c0 = 39
        · subst hc
          rw [hd, hd2] at heq
          by_cases hlst : j + 2 < s.size
          · have lI : (j : Int) + 1 < (s.size : Int) - 1 := by omega
            by_cases h39 : d = 39
            · subst h39
              have HQ := Lib.hid (show unq ((bts s).drop 1) = (unq ((bts s).drop (j + 2))).map ((acc ++ [39]) ++ ·) by rw [heq, unq_two, omap_app])
              have HN := Lib.hid (rl_alloc hr (.cells #[.int .u8 39] 5))
              clear heq hr hb1 hb2 hd hd2
              go_wp2_with (at_builtin; refine wpList_append_any _ rfl (.tmp 122) (.tmp 126) 51 rfl (w.heap.size + 1) 5 i0 _ 1 1 Tryd.underlying51 hi0 hz0 hz1 hz2 rfl (by omega) _ n (vals8 acc) rfl HN.out.1 (wr.heap.size + 1) (some ⟨wr.heap.size, 0, none⟩) 1 1 [Value.int .u8 39] rfl (reads1 wr _ _ _ rfl) (by intro u hu; simp at hu; rw [hu]; rfl) (by simp only [maxLen]; omega) (by omega) HN.out.2.2.2.1 ?_; intro v2 w6 hown2 hg2 hat2; obtain ⟨A2, c2, rfl, hR2⟩ := rl_grown (M := acc ++ [39]) HN.out (by rw [← vals8_snoc]; exact hown2) (by rw [List.length_append, ← HN.out.2.2.2.2]; rfl) hg2; (have HR2 := Lib.hid hR2); clear hown2 hg2 hat2 hR2)
              go_wp2
              go_roundw
              case rel => exact ⟨j + 2, _, c2, A2, acc ++ [39], by omega, by omega, by go_num, rfl, by have := HAL.out; simp; omega, HR2.out, HQ.out⟩
              case measure => simp [intOf]; omega
            · have HB := Lib.hid (show readZ (bts s) = (nulV, 6) by rw [HZ.out, heq, unq_bad h39]; rfl)
              have h39I : ((d : Int) != 39) = true := by rw [bne_iff_ne]; omega
              obtain ⟨x0, x1, x2, y0, y1, y2⟩ := cell3 hr.2.1
              have HR := Lib.hid hr
              clear heq hr hb1 hb2 hd hd2 h39
              go_wp2
              obtain ⟨e0, e1, e2, _, _, _⟩ := cell3 (blk3_set HR.out.2.1 (.int .u8 0) (.int .i64 0) (.string ⟨#[]⟩))
              exact bodyPost_ret (v := .tuple #[.agg #[.int .u8 0, .int .i64 0, .string ⟨#[]⟩], .int .i64 6]) (by simp [results, Tryd.results26, go_sem, e0, e1, e2]) rfl (rdP_of (x := (0, 0, ⟨#[]⟩)) HB.out (by first | exact HR.out.2.2.1 | exact below3_set HR.out.2.2.1 _ _ _))
          · have lI : (s.size : Int) - 1 ≤ (j : Int) + 1 := by omega
            obtain rfl : j = s.size - 2 := by omega
            have hd39 : d = 39 := by
              have h := HLAST.out
              rw [show s.size - 1 = s.size - 2 + 1 from by omega, hd2] at h
              simp at h; exact h.1
            have hnil : (bts s).drop (s.size - 2 + 2) = [] := List.drop_of_length_le (by rw [HL.out]; omega)
            have HB := Lib.hid (show readZ (bts s) = (nulV, 6) by rw [HZ.out, heq, hd39, unq_two, hnil]; rfl)
            obtain ⟨x0, x1, x2, y0, y1, y2⟩ := cell3 hr.2.1
            have HR := Lib.hid hr
            generalize s.size - 2 = j at *
            clear heq hr hb1 hb2 hd hd2 hd39 hnil hlst hj
            go_wp2
            obtain ⟨e0, e1, e2, _, _, _⟩ := cell3 (blk3_set HR.out.2.1 (.int .u8 0) (.int .i64 0) (.string ⟨#[]⟩))
            exact bodyPost_ret (v := .tuple #[.agg #[.int .u8 0, .int .i64 0, .string ⟨#[]⟩], .int .i64 6]) (by simp [results, Tryd.results26, go_sem, e0, e1, e2]) rfl (rdP_of (x := (0, 0, ⟨#[]⟩)) HB.out (by first | exact HR.out.2.2.1 | exact below3_set HR.out.2.2.1 _ _ _))
        · have hcI : ((c0 : Int) == 39) = false := by rw [beq_eq_false_iff_ne]; omega
          rw [hd] at heq
          have HQ := Lib.hid (show unq ((bts s).drop 1) = (unq ((bts s).drop (j + 1))).map ((acc ++ [c0]) ++ ·) by rw [heq, unq_char hc, omap_app])
          have HN := Lib.hid (rl_alloc hr (.cells #[.int .u8 (c0 : Nat)] 5))
          clear heq hr hb1 hb2 hd hd2 hc hx
          go_wp2_with (at_builtin; refine wpList_append_any _ rfl (.tmp 122) (.tmp 126) 51 rfl (w.heap.size + 1) 5 i0 _ 1 1 Tryd.underlying51 hi0 hz0 hz1 hz2 rfl (by omega) _ n (vals8 acc) rfl HN.out.1 (wr.heap.size + 1) (some ⟨wr.heap.size, 0, none⟩) 1 1 [Value.int .u8 c0] rfl (reads1 wr _ _ _ rfl) (by intro u hu; simp at hu; rw [hu]; rfl) (by simp only [maxLen]; omega) (by omega) HN.out.2.2.2.1 ?_; intro v2 w6 hown2 hg2 hat2; obtain ⟨A2, c2, rfl, hR2⟩ := rl_grown (M := acc ++ [c0]) HN.out (by rw [← vals8_snoc]; exact hown2) (by rw [List.length_append, ← HN.out.2.2.2.2]; rfl) hg2; (have HR2 := Lib.hid hR2); clear hown2 hg2 hat2 hR2)
          go_wp2
          go_roundw
          case rel => exact ⟨j + 1, _, c2, A2, acc ++ [c0], by omega, by omega, by go_num, rfl, by have := HAL.out; simp; omega, HR2.out, HQ.out⟩
          case measure => simp [intOf]; omega
      · obtain rfl : j = s.size - 1 := by omega
        have jI : (s.size : Int) - 1 ≤ ((s.size - 1 : Nat) : Int) := by omega
        have HU := Lib.hid (show readZ (bts s) = toldZ 2 (some acc) by rw [HZ.out, heq, HLAST.out, unq_end])
        have hcv := rl_conv hr
        have HRR := Lib.hid hr
        generalize s.size - 1 = j at *
        have jB : (j : Int) ≤ 100000 := by omega
        clear heq hr hj hal
        go_wp2_with fail
        refine (HTO.out 2 (bstr acc) _).mono ?_
        rintro e w1 ⟨he, hb1⟩
        have hv1 := blk_step HRR.out.2.1 hb1
        obtain ⟨x0, x1, x2, y0, y1, y2⟩ := cell3 hv1
        have HV1 := Lib.hid hv1
        have HB1 := Lib.hid (bj HRR.out.2.2.1 hb1)
        by_cases hX : 1000 < (bstr acc).size
        · have HU2 := Lib.hid (HU.out.trans (toldZ_big hX))
          rw [if_pos hX] at he
          subst he
          clear hX hb1 hv1 hcv
          go_wp2
          obtain ⟨e0, e1, e2, _, _, _⟩ := cell3 (blk3_set HV1.out (.int .u8 0) (.int .i64 0) (.string ⟨#[]⟩))
          exact bodyPost_ret (v := .tuple #[.agg #[.int .u8 0, .int .i64 0, .string ⟨#[]⟩], .int .i64 3]) (by simp [results, Tryd.results26, go_sem, e0, e1, e2]) rfl (rdP_of (x := (0, 0, ⟨#[]⟩)) HU2.out (by first | exact HB1.out | exact below3_set HB1.out _ _ _))
        · have HU2 := Lib.hid (HU.out.trans (toldZ_ok hX))
          rw [if_neg hX] at he
          subst he
          generalize bstr acc = X at *
          clear hX hb1 hv1 hcv
          go_wp2
          obtain ⟨e0, e1, e2, _, _, _⟩ := cell3 (blk3_set HV1.out (.int .u8 2) (.int .i64 0) (.string X))
          exact bodyPost_ret (v := .tuple #[.agg #[.int .u8 2, .int .i64 0, .string X], .int .i64 0]) (by simp [results, Tryd.results26, go_sem, e0, e1, e2]) rfl (rdP_of (x := (2, 0, X)) HU2.out (by first | exact HB1.out | exact below3_set HB1.out _ _ _))
/-- the reference's Read answers what readZ does -/
theorem rread_any (s : ByteArray) (w : World) (hl : s.size ≤ 100000) : Calls Tryd.prog 26 #[.string s] w (RdP s w) := by
  by_cases h0 : bts s = nulL
  · have e : s = ⟨#[78, 85, 76, 76]⟩ := bts_inj (h0.trans rfl)
    rw [e]
    exact rread_nul w
  · by_cases hx : Gx (bts s)
    · exact rread_x s w h0 hx hl
    · by_cases hq : Gq (bts s)
      · exact rread_q s w h0 hq hl
      · exact rread_num s w h0 hx hq hl
end Go.Proofs.YtlbalhiiamenfaaDoor
